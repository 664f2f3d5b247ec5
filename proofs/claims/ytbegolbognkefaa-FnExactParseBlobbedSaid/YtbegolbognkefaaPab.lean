/- ParseBlobbed: the answers and the law. -/
import Derived.Test.YtbegolbognkefaaBtx
namespace Go.Proofs.Ytbegolbognkefaa
open Go.RowKit Go.Lib
set_option linter.unusedVariables false
set_option linter.unusedSimpArgs false
theorem Byf.new (w : World) (base n cap : Nat) (hb : base ≤ w.heap.size) (hw : w.heap.size = n) (hc : cap ≤ maxLen) (cs : Array Value) (hs : cs.size = cap) : Byf (w.alloc (.cells cs 5)) base n cap [] := by
  subst hw
  exact ⟨hb, Nat.zero_le _, hc, cs, (0, 0), heap_alloc_new w _, .inl rfl, hs, by simp⟩
theorem plain_take (L : List Int) (k : Nat) (h : k < L.length) : plainL (L.take (k + 1)) = plainL (L.take k) ++ [plainC (L.getD k 0)] := by
  unfold plainL
  rw [List.take_add_one, List.getElem?_eq_getElem h, List.map_append, List.getD_eq_getElem?_getD, List.getElem?_eq_getElem h]
  rfl
theorem LI_get (s : ByteArray) (k : Nat) (h : k < s.size) : (LI s.data.toList).getD k 0 = ((s[k].toNat : Nat) : Int) := by
  unfold LI
  rw [List.getD_eq_getElem?_getD, List.getElem?_map, get_list s k h]
  rfl
/-- The answer. -/
def pabV (L : List Int) : Int × List Int × List Bool × Int :=
  match parse (u8s (plainL L)) with
  | none => (0, zeros, zbs, 6)
  | some (n, ms) => if isB n ms (mkK n L L.length) = true then (n, ms, mkK n L L.length, 0) else (0, zeros, zbs, 6)
def PabPost (L : List Int) (w : World) (e : Ending) (w' : World) : Prop := e = .returned (.tuple #[.agg (bcl (pabV L).1 (pabV L).2.1 (pabV L).2.2.1), .int .i64 (pabV L).2.2.2]) ∧ Below w.heap.size w w'
theorem pab_len (L : List Int) : (pabV L).2.1.length = 16 ∧ (pabV L).2.2.1.length = 16 := by
  unfold pabV
  cases h : parse (u8s (plainL L)) with
  | none => exact ⟨rfl, rfl⟩
  | some q =>
    obtain ⟨n, ms⟩ := q
    simp only
    split
    · exact ⟨parse_len _ _ _ h, mkK_len _ _ _⟩
    · exact ⟨rfl, rfl⟩
theorem pab_bot (L : List Int) (hb : Bytes L) : (match botP L with | none => ((0 : Int), zeros, zbs, (6 : Int)) | some (n, ms, bs) => (n, ms, bs, 0)) = pabV L := by
  unfold pabV
  cases h : parse (u8s (plainL L)) with
  | none => rw [bot_G1 L hb h]
  | some q =>
    obtain ⟨n, ms⟩ := q
    rw [bot_G2 L hb n ms h]
    simp only
    by_cases hB : isB n ms (mkK n L L.length) = true
    · rw [if_pos hB, if_pos hB]
    · rw [if_neg hB, if_neg hB]
set_option maxRecDepth 100000 in
set_option maxHeartbeats 1000000 in
theorem pabI_none (s : ByteArray) (hs : s.size ≤ 1048576) (h : botP (LI s.data.toList) = none) (w : World) :
    Calls Try.prog 24 #[.string s] w fun e w' => e = .returned (.tuple #[.agg (bcl 0 zeros zbs), .int .i64 6]) ∧ Below w.heap.size w w' := by
  have hb := Lib.hid (show ∀ w, Calls Try.prog 45 #[.string s] w fun e w' => e = .returned (.tuple #[.agg zbl, .bool false]) ∧ Below w.heap.size w w' from fun w => (botI_any s hs w).mono (fun e w' hp => by unfold BotPost at hp; rw [h] at hp; exact hp))
  clear h hs
  go_enter Try.func24, Try.ntmps24
  go_wp2_with (first
    | ((go_at_call 45; ((with_reducible refine (hb.out _).mono ?_); rintro e w1 ⟨rfl, hB1⟩)); have hZ1 : Own w1 w.heap.size zbl 38 := (Own.new _ _ _).below hB1 (by simp); have b1 := ((Below.refl w.heap.size w).alloc (Nat.le_refl _) (.cells zbl 38)).trans (hB1.mono (by simp)))
    | (refine wpList_store_own rfl 38 _ _ rfl _ _ rfl rfl 38 _ (Own.new w1 _ _) (rowB (b33 _ _ _ (zlen) (zbsl))) (rfl) (bcl_one _ _ _) ?_; intro w2 hO2 hN2)
    | (refine wpList_build_of rfl 38 #[] rfl zbl ?_ ?_; (exact builtB0))
    | (refine wpList_store_own rfl 38 _ _ rfl _ _ rfl rfl 38 _ ((hZ1.alloc _).only hN2 (Nat.ne_of_lt hZ1.lt)) (rowB (b33 _ _ _ (zlen) (zbsl))) (rfl) (bcl_one _ _ _) ?_; intro w3 hO3 hN3))
  refine bodyPost_ret (v := .tuple #[.agg (zbl), .int .i64 6]) (results_row_tmp rfl _ _ _ _ _ (0, 0) _ rfl (hO3) Try.underlying38 rfl (rowB (b33 _ _ _ (zlen) (zbsl))) _ rfl) rfl (⟨rfl, ((b1.alloc b1.size _).trans (hN2.below.mono b1.size)).trans (hN3.below.mono (Nat.le_refl _))⟩)
set_option maxRecDepth 100000 in
set_option maxHeartbeats 1000000 in
theorem pabI_some (s : ByteArray) (hs : s.size ≤ 1048576) (n : Int) (ms : List Int) (bs : List Bool) (hms : ms.length = 16) (hbs : bs.length = 16) (h : botP (LI s.data.toList) = some (n, ms, bs)) (w : World) :
    Calls Try.prog 24 #[.string s] w fun e w' => e = .returned (.tuple #[.agg (bcl n ms bs), .int .i64 0]) ∧ Below w.heap.size w w' := by
  have hb := Lib.hid (show ∀ w, Calls Try.prog 45 #[.string s] w fun e w' => e = .returned (.tuple #[.agg (bcl n ms bs), .bool true]) ∧ Below w.heap.size w w' from fun w => (botI_any s hs w).mono (fun e w' hp => by unfold BotPost at hp; rw [h] at hp; exact hp))
  have hl := Lib.hid hms
  have hk := Lib.hid hbs
  clear h hs hms hbs
  go_enter Try.func24, Try.ntmps24
  go_wp2_with (first
    | ((go_at_call 45; ((with_reducible refine (hb.out _).mono ?_); rintro e w1 ⟨rfl, hB1⟩)); have hZ1 : Own w1 w.heap.size zbl 38 := (Own.new _ _ _).below hB1 (by simp); have b1 := ((Below.refl w.heap.size w).alloc (Nat.le_refl _) (.cells zbl 38)).trans (hB1.mono (by simp)))
    | (refine wpList_store_own rfl 38 _ _ rfl _ _ rfl rfl 38 _ (Own.new w1 _ _) (rowB (b33 _ _ _ (hl.out) (hk.out))) (zb _ _ _ hl.out hk.out) (bcl_one _ _ _) ?_; intro w2 hO2 hN2)
    | (refine wpList_load_row rfl 38 _ rfl _ rfl 38 _ (0, 0) _ (hO2) Try.underlying38 rfl (rowB (b33 _ _ _ (hl.out) (hk.out))) ?_)
    | (refine wpList_store_own rfl 38 _ _ rfl _ _ rfl rfl 38 _ ((hZ1.alloc _).only hN2 (Nat.ne_of_lt hZ1.lt)) (rowB (b33 _ _ _ (hl.out) (hk.out))) (zb _ _ _ hl.out hk.out) (bcl_one _ _ _) ?_; intro w3 hO3 hN3))
  refine bodyPost_ret (v := .tuple #[.agg (bcl n ms bs), .int .i64 0]) (results_row_tmp rfl _ _ _ _ _ (0, 0) _ rfl (hO3) Try.underlying38 rfl (rowB (b33 _ _ _ (hl.out) (hk.out))) _ rfl) rfl (⟨rfl, ((b1.alloc b1.size _).trans (hN2.below.mono b1.size)).trans (hN3.below.mono (Nat.le_refl _))⟩)
theorem pabI_any (s : ByteArray) (hs : s.size ≤ 1048576) (w : World) : Calls Try.prog 24 #[.string s] w (PabPost (LI s.data.toList) w) := by
  have hb := LI_bytes s.data.toList
  have e := pab_bot (LI s.data.toList) hb
  unfold PabPost
  have hl := pab_len (LI s.data.toList)
  cases h : botP (LI s.data.toList) with
  | none =>
    rw [h] at e
    rw [← e]
    exact pabI_none s hs h w
  | some q =>
    obtain ⟨n, ms, bs⟩ := q
    rw [h] at e
    rw [← e] at hl ⊢
    exact pabI_some s hs n ms bs hl.1 hl.2 h w
set_option maxRecDepth 100000 in
set_option maxHeartbeats 8000000 in
theorem pabS_any (s : ByteArray) (hs : s.size ≤ 1048576) (w : World) : Calls Try.prog 23 #[.string s] w (PabPost (LI s.data.toList) w) := by
  obtain ⟨N, hN⟩ : ∃ N, s.size = N := ⟨_, rfl⟩
  have hLg := Lib.hid (fun k h => LI_get s k h)
  have hLb := LI_bytes s.data.toList
  have hLl0 : (LI s.data.toList).length = N := by rw [LI_len, size_list, hN]
  have hNs := Lib.hid hN
  obtain ⟨L, hL⟩ : ∃ L, LI s.data.toList = L := ⟨_, rfl⟩
  rw [hL] at hLg hLb hLl0 ⊢
  have hLl := Lib.hid hLl0
  have hBy := Lib.hid hLb
  have hpost := Lib.hid (show ∀ (n : Int) ms bs c w', pabV L = (n, ms, bs, c) → Below w.heap.size w w' → PabPost L w (.returned (.tuple #[.agg (bcl n ms bs), .int .i64 c])) w' from fun n ms bs c w' e hB => by unfold PabPost; rw [e]; exact ⟨rfl, hB⟩)
  have hmk := mk0b
  have hN20 : N ≤ 1048576 := by omega
  have hNI : (s.size : Int) = (N : Int) := by omega
  clear hs hN hL hLl0 hLb
  go_enter Try.func23, Try.ntmps23
  go_upto_region 2 with fail
  refine gen_world (fun x => Own x w.heap.size zbl 38 ∧ Byf x (w.heap.size + 1) (w.heap.size + 1) 0 (plainL (L.take 0)) ∧ Below w.heap.size w x) ⟨(Own.new _ _ _).alloc _, Byf.new _ _ _ _ (by simp) (by simp) (by decide) #[] rfl, ((Below.refl _ _).alloc (Nat.le_refl _) _).alloc (by simp) _⟩ ?_
  rintro w1 ⟨nZ, nI, nB⟩
  clear hmk
  go_wp2
  go_loopw [4, 5] (fun v i wr => ∃ (k g cap : Nat), k ≤ N ∧ i = .int .i64 k ∧ v = .slice (some ⟨g, 0, none⟩) k cap ∧ Own wr w.heap.size zbl 38 ∧ Byf wr (w.heap.size + 1) g cap (plainL (L.take k)) ∧ Below w.heap.size w wr) (fun _ i _ => (N - intOf i).toNat)
  case atStart => exact ⟨0, _, _, by omega, rfl, rfl, nZ, nI, nB⟩
  case round =>
    clear nZ nI nB
    obtain ⟨k, g, cap, hkN, rfl, rfl, hZ, hI, hB⟩ := hrel
    have hcl : (plainL (L.take k)).length = k := by rw [plain_len, List.length_take, hLl.out]; omega
    obtain ⟨X, hX⟩ : ∃ X, plainL (L.take k) = X := ⟨_, rfl⟩
    rw [hX] at hI hcl
    by_cases hlt : k < N
    · have hks : k < s.size := by have := hNs.out; omega
      have hg := hLg.out k hks
      have hst := Lib.hid (show plainL (L.take (k + 1)) = X ++ [plainC ((s[k].toNat : Nat) : Int)] by rw [plain_take L k (by rw [hLl.out]; exact hlt), hX, hg])
      have hCL := Lib.hid hcl
      have hsz := hB.size
      have hol := hZ.lt
      have hgb := hI.1
      have hX4 : X.length < 4194304 := by omega
      have kI : (k : Int) < (N : Int) := by omega
      clear hX hg
      by_cases c91 : s[k] = 91
      · have b91 : ((s[k].toNat : Int) == 91) = true := by rw [c91]; rfl
        have hpc := Lib.hid (show plainC ((s[k].toNat : Nat) : Int) = 40 by rw [c91]; rfl)
        clear c91
        go_wp2_with (first
          | (refine wpList_append_byf rfl (.tmp 28) (.tmp 29) rfl (w.heap.size + 1) g cap X 40 (by unfold bval; rw [hCL.out]; rfl) (hI.alloc _) ⟨wr.heap.size, 0, none⟩ 1 rfl ((Own.new _ _ _).cell 0) hX4 (by simp <;> omega) ?_; intro g3 cap3 w3 hI3 hG3))
        have hZ3 := (hZ.alloc _).grown hG3 (by omega)
        have hB3 : Below w.heap.size w w3 := (hB.alloc hsz _).grown hG3 (by simp; omega) (fun k e => by simp at e; omega)
        have hiv : bval g3 cap3 (X ++ [40]) = .slice (some ⟨g3, 0, none⟩) (k + 1) cap3 := by unfold bval; rw [List.length_append, hCL.out]; rfl
        have hI4 : Byf w3 (w.heap.size + 1) g3 cap3 (plainL (L.take (k + 1))) := by rw [hst.out, hpc.out]; exact hI3
        go_roundw
        case rel => exact ⟨k + 1, g3, cap3, by omega, by go_num, hiv, hZ3, hI4, hB3⟩
        case measure => simp [intOf]; omega
      have b91 : ((s[k].toNat : Int) == 91) = false := byte_ne s[k] 91 c91
      by_cases c93 : s[k] = 93
      · have b93 : ((s[k].toNat : Int) == 93) = true := by rw [c93]; rfl
        have hpc := Lib.hid (show plainC ((s[k].toNat : Nat) : Int) = 41 by rw [c93]; rfl)
        clear c93 c91
        go_wp2_with (first
          | (refine wpList_append_byf rfl (.tmp 33) (.tmp 34) rfl (w.heap.size + 1) g cap X 41 (by unfold bval; rw [hCL.out]; rfl) (hI.alloc _) ⟨wr.heap.size, 0, none⟩ 1 rfl ((Own.new _ _ _).cell 0) hX4 (by simp <;> omega) ?_; intro g3 cap3 w3 hI3 hG3))
        have hZ3 := (hZ.alloc _).grown hG3 (by omega)
        have hB3 : Below w.heap.size w w3 := (hB.alloc hsz _).grown hG3 (by simp; omega) (fun k e => by simp at e; omega)
        have hiv : bval g3 cap3 (X ++ [41]) = .slice (some ⟨g3, 0, none⟩) (k + 1) cap3 := by unfold bval; rw [List.length_append, hCL.out]; rfl
        have hI4 : Byf w3 (w.heap.size + 1) g3 cap3 (plainL (L.take (k + 1))) := by rw [hst.out, hpc.out]; exact hI3
        go_roundw
        case rel => exact ⟨k + 1, g3, cap3, by omega, by go_num, hiv, hZ3, hI4, hB3⟩
        case measure => simp [intOf]; omega
      have b93 : ((s[k].toNat : Int) == 93) = false := byte_ne s[k] 93 c93
      have hpc := Lib.hid (show plainC ((s[k].toNat : Nat) : Int) = ((s[k].toNat : Nat) : Int) from plainC_id _ (fun h => by
        rcases h with h | h
        · rw [h] at b91; cases b91
        · rw [h] at b93; cases b93))
      clear c91 c93
      · skip
        go_wp2_with (first
          | (refine wpList_append_byf rfl (.tmp 20) (.tmp 24) rfl (w.heap.size + 1) g cap X ((s[k].toNat : Nat) : Int) (by unfold bval; rw [hCL.out]; rfl) (hI.alloc _) ⟨wr.heap.size, 0, none⟩ 1 rfl ((Own.new _ _ _).cell 0) hX4 (by simp <;> omega) ?_; intro g3 cap3 w3 hI3 hG3))
        have hZ3 := (hZ.alloc _).grown hG3 (by omega)
        have hB3 : Below w.heap.size w w3 := (hB.alloc hsz _).grown hG3 (by simp; omega) (fun k e => by simp at e; omega)
        have hiv : bval g3 cap3 (X ++ [((s[k].toNat : Nat) : Int)]) = .slice (some ⟨g3, 0, none⟩) (k + 1) cap3 := by unfold bval; rw [List.length_append, hCL.out]; rfl
        have hI4 : Byf w3 (w.heap.size + 1) g3 cap3 (plainL (L.take (k + 1))) := by rw [hst.out, hpc.out]; exact hI3
        go_roundw
        case rel => exact ⟨k + 1, g3, cap3, by omega, by go_num, hiv, hZ3, hI4, hB3⟩
        case measure => simp [intOf]; omega
    · have e : k = N := by omega
      subst e
      rw [List.take_of_length_le (by rw [hLl.out]; exact Nat.le_refl _)] at hX
      have hlen := hcl
      obtain ⟨_, hcap1, _, cur, fz, hcur, _, hcs', hct⟩ := hI
      have hcv := run_convert_bytes_arg wr 66 5 Try.underlying66 Try.underlying5 g 0 k cap X hlen
        (fun i hi => by
          have e0 : wr.cell? ⟨g, 0 + i, none⟩ = cur[i]? := by rw [Nat.zero_add]; simp [World.cell?, hcur]
          rw [e0]
          have e : (cur.toList.take X.length)[i]? = (X.map (Value.int .u8))[i]? := by rw [hct]
          rw [List.getElem?_take_of_lt (by rw [hlen]; exact hi)] at e
          simpa [show i < X.length by rw [hlen]; exact hi] using e) 9 Try.underlying9
      obtain ⟨S, hS⟩ : ∃ S, strOfNums X = S := ⟨_, rfl⟩
      rw [hS] at hcv
      have hSd : S.data.toList = u8s X := by rw [← hS, strOfNums_data]; rfl
      have hSs : S.size ≤ maxLen := by
        have : S.data.toList.length = X.length := by rw [hSd]; simp [u8s]
        rw [size_list] at this
        rw [this, hlen]; unfold maxLen; omega
      have hsz := hB.size
      have hZl := hZ.lt
      have hpv : pabV L = match parse (u8s X) with | none => (0, zeros, zbs, 6) | some (n, ms) => if isB n ms (mkK n L L.length) = true then (n, ms, mkK n L L.length, 0) else (0, zeros, zbs, 6) := by unfold pabV; rw [hX]
      cases hp : parse (u8s X) with
      | none =>
        have hd := Lib.hid (fun w => (readS_any S w hSs).mono fun e w' (hd : DotPost S w e w') => show e = .returned (.tuple #[.agg zcells, .bool false]) ∧ Below w.heap.size w w' from ⟨by rw [hd.1, hSd, hp]; rfl, hd.2⟩)
        rw [hp] at hpv
        have hfin := Lib.hid (hpost.out 0 zeros zbs 6)
        have HPV := Lib.hid hpv
        clear hp hSs hSd hS hct hcs' hcur hcap1 hlen hX hcl hpv hpost
        go_wp2_with (first
          | ((go_at_call 48; ((with_reducible refine (hd.out _).mono ?_); rintro e w5 ⟨rfl, hB5⟩)); have hZ5 := hZ.below hB5 hZ.lt; have b5 := hB.trans (hB5.mono hsz))
          | (refine wpList_store_own rfl 28 _ _ rfl _ _ rfl rfl 28 _ (Own.new w5 _ _) (row26 (d17 _ _ (zlen))) (rfl) (dcells_one _ _) ?_; intro w6 hO6 hN6)
          | (refine wpList_build_of rfl 38 #[] rfl zbl ?_ ?_; (exact builtB0))
          | (refine wpList_store_own rfl 38 _ _ rfl _ _ rfl rfl 38 _ ((hZ5.alloc _).only hN6 (Nat.ne_of_lt hZ5.lt)) (rowB (b33 _ _ _ (zlen) (zbsl))) (rfl) (bcl_one _ _ _) ?_; intro w7 hO7 hN7))
        refine bodyPost_ret (v := .tuple #[.agg (zbl), .int .i64 6]) (results_row_tmp rfl _ _ _ _ _ (0, 0) _ rfl (hO7) Try.underlying38 rfl (rowB (b33 _ _ _ (zlen) (zbsl))) _ rfl) rfl (hfin.out _ HPV.out (((b5.alloc b5.size _).trans (hN6.below.mono b5.size)).trans (hN7.below.mono (Nat.le_refl _))))
      | some r =>
        obtain ⟨n, ms⟩ := r
        have hd := Lib.hid (fun w => (readS_any S w hSs).mono fun e w' (hd : DotPost S w e w') => show e = .returned (.tuple #[.agg (dcells n ms), .bool true]) ∧ Below w.heap.size w w' from ⟨by rw [hd.1, hSd, hp]; rfl, hd.2⟩)
        rw [hp, hLl.out] at hpv
        simp only at hpv
        have hms := Lib.hid (parse_len _ _ _ hp)
        have hbm := parse_bytes _ _ _ hp
        have hnet := parse_net _ _ _ hp
        have h2n := (parse_pst _ _ _ hp).2.1
        rw [u8s_len, hlen] at h2n
        obtain ⟨h1, h8⟩ := hnet.bd
        have hisB := Lib.hid (fun bs hbs w => isBS_any n ms bs hms.out hbs hbm w)
        have HPV := Lib.hid hpv
        clear hp hSs hSd hS hct hcs' hcur hcap1 hlen hX hcl hpv hnet hbm
        go_wp2_with (first
          | ((go_at_call 48; ((with_reducible refine (hd.out _).mono ?_); rintro e w5 ⟨rfl, hB5⟩)); have hZ5 := hZ.below hB5 hZ.lt; have b5 := hB.trans (hB5.mono hsz))
          | (refine wpList_store_own rfl 28 _ _ rfl _ _ rfl rfl 28 _ (Own.new w5 _ _) (row26 (d17 _ _ (hms.out))) (z_eq (d17 _ _ hms.out)) (dcells_one _ _) ?_; intro w6 hO6 hN6)
          | (refine wpList_load_row rfl 28 _ rfl _ rfl 28 _ (0, 0) _ (hO6) Try.underlying28 rfl (row26 (d17 _ _ (hms.out))) ?_)
          | (refine wpList_build_of rfl 38 #[(0, .tmp 45)] rfl (bcl n ms zbs) ?_ ?_; (exact builtB1 _ _ hms.out))
          | (refine wpList_store_own rfl 38 _ _ rfl _ _ rfl rfl 38 _ (Own.new w6 _ _) (rowB (b33 _ _ _ (hms.out) (zbsl))) (zb _ _ _ hms.out zbsl) (bcl_one _ _ _) ?_; intro w7 hO7 hN7))
        have s5 := b5.size
        have s6 : w6.heap.size = w5.heap.size + 1 := by rw [hN6.size]; simp
        have z5 := hZ5.lt
        have nD : Own w7 w5.heap.size (dcells n ms) 28 := (hO6.alloc _).only hN7 (by omega)
        have nZ : Own w7 w.heap.size zbl 38 := (((hZ5.alloc _).only hN6 (by omega)).alloc _).only hN7 (by omega)
        have nB : Below w.heap.size w w7 := (((b5.alloc s5 _).trans (hN6.below.mono s5)).alloc (by omega) _).trans (hN7.below.mono (by omega))
        have nO : Own w7 w6.heap.size (bcl n ms (mkK n L 0)) 38 := hO7
        obtain ⟨b12, h12⟩ : ∃ x, x = w5.heap.size := ⟨_, rfl⟩
        obtain ⟨b14, h14⟩ : ∃ x, x = w6.heap.size := ⟨_, rfl⟩
        rw [← h12] at nD s6 s5 z5 ⊢
        rw [← h14] at nO s6 ⊢
        have d14 : b12 < b14 := by omega
        clear s6 h12 h14 hB5 hN6 hN7 hO6 hZ5 b5 hZ hB hd hsz hZl hO7
        go_loopw [9] (fun i wr => ∃ j : Nat, j ≤ k ∧ i = .int .i64 j ∧ Own wr b14 (bcl n ms (mkK n L j)) 38 ∧ Own wr b12 (dcells n ms) 28 ∧ Own wr w.heap.size zbl 38 ∧ Below w.heap.size w wr) (fun i _ => (k - intOf i).toNat)
        case atStart => exact ⟨0, by omega, rfl, nO, nD, nZ, nB⟩
        case round =>
          clear nO nD nZ nB
          obtain ⟨j, hj, rfl, hO, hD, hZ, hB⟩ := hrel
          have hkl := Lib.hid (mkK_len n L j)
          by_cases hlt2 : j < k
          · have hks : j < s.size := by have := hNs.out; omega
            have hg := hLg.out j hks
            have jI : (j : Int) < (k : Int) := by omega
            have pb := pl_bd n j h8 (by omega) (by omega)
            obtain ⟨p, hp⟩ : ∃ p, pl n (j : Int) = p := ⟨_, rfl⟩
            rw [hp] at pb
            obtain ⟨p0, p1, p2⟩ := pb
            have hP := Lib.hid hp
            have hyes := Lib.hid (show (L.getD j 0 = 91 ∨ L.getD j 0 = 93) → mkK n L (j + 1) = (mkK n L j).set p.toNat true from fun h => by rw [mkK, if_pos h, hp])
            have hno := Lib.hid (show ¬ (L.getD j 0 = 91 ∨ L.getD j 0 = 93) → mkK n L (j + 1) = mkK n L j from fun h => by rw [mkK, if_neg h])
            rw [hg] at hyes hno
            have c0 := hD.cell 0
            rw [dcells_zero] at c0
            have e1 := hO.cell (17 + p.toNat)
            rw [bcl_blob _ _ _ hms.out _ (by rw [hkl.out]; omega)] at e1
            have e2 := hO.free (17 + p.toNat)
            have hO2 := hO.set (17 + p.toNat) (.bool true)
            rw [bcl_set _ _ _ hms.out] at hO2
            have KO := Lib.hid hO2
            have KD := Lib.hid (hD.other (a := ⟨b14, 17 + p.toNat, none⟩) (fun h => by simp at h; omega) (.bool true))
            have KZ := Lib.hid (hZ.other (a := ⟨b14, 17 + p.toNat, none⟩) (fun h => by simp at h; omega) (.bool true))
            have KB := Lib.hid (hB.setCell (p := ⟨b14, 17 + p.toNat, none⟩) (by show _ ≤ b14; omega) (.bool true))
            clear hp hg hO2
            by_cases c91 : s[j] = 91
            · have b91 : ((s[j].toNat : Int) == 91) = true := by rw [c91]; rfl
              have hst := Lib.hid (hyes.out (.inl (by rw [c91]; rfl)))
              clear c91 hO hZ hB
              go_wp2_with (first
                | (go_at_call 39; ((with_reducible refine ((placeS_any n j _ (by omega) (by omega) (by omega) (by omega)).mono (fun e w' h => (by rw [hP.out] at h; exact h : e = .returned (.int .i64 p) ∧ w' = _))).mono ?_); rintro e w0 ⟨rfl, rfl⟩)))
              go_roundw
              case rel => exact ⟨j + 1, by omega, by go_num, by rw [hst.out]; exact KO.out, KD.out, KZ.out, KB.out⟩
              case measure => simp [intOf]; omega
            · have b91 : ((s[j].toNat : Int) == 91) = false := byte_ne s[j] 91 c91
              by_cases c93 : s[j] = 93
              · have b93 : ((s[j].toNat : Int) == 93) = true := by rw [c93]; rfl
                have hst := Lib.hid (hyes.out (.inr (by rw [c93]; rfl)))
                clear c91 c93 hO hZ hB
                go_wp2_with (first
                  | (go_at_call 39; ((with_reducible refine ((placeS_any n j _ (by omega) (by omega) (by omega) (by omega)).mono (fun e w' h => (by rw [hP.out] at h; exact h : e = .returned (.int .i64 p) ∧ w' = _))).mono ?_); rintro e w0 ⟨rfl, rfl⟩)))
                go_roundw
                case rel => exact ⟨j + 1, by omega, by go_num, by rw [hst.out]; exact KO.out, KD.out, KZ.out, KB.out⟩
                case measure => simp [intOf]; omega
              · have b93 : ((s[j].toNat : Int) == 93) = false := byte_ne s[j] 93 c93
                have hst := Lib.hid (hno.out (fun h => by
                  rcases h with h | h
                  · rw [h] at b91; cases b91
                  · rw [h] at b93; cases b93))
                clear c91 c93 KO KD KZ KB
                go_wp2
                go_roundw
                case rel => exact ⟨j + 1, by omega, by go_num, by rw [hst.out]; exact hO, hD, hZ, hB⟩
                case measure => simp [intOf]; omega
          · have e : j = k := by omega
            subst e
            have hiB := Lib.hid (fun w => hisB.out (mkK n L j) hkl.out w)
            have hsz := hB.size
            have hZl := hZ.lt
            cases hbb : isB n ms (mkK n L j) with
            | true =>
              have hpv := HPV.out
              rw [if_pos hbb] at hpv
              have hq := Lib.hid hpv
              rw [hbb] at hiB
              clear hbb hpv
              go_wp2_with (first
                | ((go_at_call 43; ((with_reducible refine (hiB.out _).mono ?_); rintro e w9 ⟨rfl, hB9⟩)); have hO9 := hO.below hB9 hO.lt; have hZ9 := hZ.below hB9 hZl; have b9 := hB.trans (hB9.mono hsz))
                | (refine wpList_load_row rfl 38 _ rfl _ rfl 38 _ (0, 0) _ (hO) Try.underlying38 rfl (rowB (b33 _ _ _ (hms.out) (hkl.out))) ?_)
                | (refine wpList_load_row rfl 38 _ rfl _ rfl 38 _ (0, 0) _ (hO9) Try.underlying38 rfl (rowB (b33 _ _ _ (hms.out) (hkl.out))) ?_)
                | (refine wpList_store_own rfl 38 _ _ rfl _ _ rfl rfl 38 _ (hZ9) (rowB (b33 _ _ _ (hms.out) (hkl.out))) (zb _ _ _ hms.out hkl.out) (bcl_one _ _ _) ?_; intro wa hOa hNa))
              refine bodyPost_ret (v := .tuple #[.agg (bcl n ms (mkK n L j)), .int .i64 0]) (results_row_tmp rfl _ _ _ _ _ (0, 0) _ rfl (hOa) Try.underlying38 rfl (rowB (b33 _ _ _ (hms.out) (hkl.out))) _ rfl) rfl (hpost.out _ _ _ _ _ hq.out (b9.trans (hNa.below.mono (Nat.le_refl _))))
            | false =>
              have hpv := HPV.out
              rw [if_neg (by rw [hbb]; simp)] at hpv
              have hq := Lib.hid hpv
              rw [hbb] at hiB
              clear hbb hpv
              go_wp2_with (first
                | ((go_at_call 43; ((with_reducible refine (hiB.out _).mono ?_); rintro e w9 ⟨rfl, hB9⟩)); have hZ9 := hZ.below hB9 hZl; have b9 := hB.trans (hB9.mono hsz))
                | (refine wpList_load_row rfl 38 _ rfl _ rfl 38 _ (0, 0) _ (hO) Try.underlying38 rfl (rowB (b33 _ _ _ (hms.out) (hkl.out))) ?_)
                | (refine wpList_build_of rfl 38 #[] rfl zbl ?_ ?_; (exact builtB0))
                | (refine wpList_store_own rfl 38 _ _ rfl _ _ rfl rfl 38 _ (hZ9) (rowB (b33 _ _ _ (zlen) (zbsl))) (rfl) (bcl_one _ _ _) ?_; intro wa hOa hNa))
              refine bodyPost_ret (v := .tuple #[.agg (zbl), .int .i64 6]) (results_row_tmp rfl _ _ _ _ _ (0, 0) _ rfl (hOa) Try.underlying38 rfl (rowB (b33 _ _ _ (zlen) (zbsl))) _ rfl) rfl (hpost.out _ _ _ _ _ hq.out (b9.trans (hNa.below.mono (Nat.le_refl _))))
set_option maxRecDepth 100000 in
set_option maxHeartbeats 1000000 in
theorem ParseBlobbed_walk (s : ByteArray) (w : World) (h20 : s.size ≤ 1048576) (m c : Int) (rs : List Int) (cs : List Bool) (hr : rs.length = 16) (hq : cs.length = 16)
    (hS : ∀ w, Calls Try.prog 23 #[.string s] w fun e w' => e = .returned (.tuple #[.agg (bcl m rs cs), .int .i64 c]) ∧ Below w.heap.size w w')
    (hI : ∀ w, Calls Try.prog 24 #[.string s] w fun e w' => e = .returned (.tuple #[.agg (bcl m rs cs), .int .i64 c]) ∧ Below w.heap.size w w') :
    Calls Try.prog 6 #[.string s] w fun e w' => e = .returned (.bool true) ∧ Below w.heap.size w w' := by
  have hS' := Lib.hid hS
  have hI' := Lib.hid hI
  have hh := Lib.hid hr
  have hh2 := Lib.hid hq
  clear hS hI hr hq
  go_enter Try.func6, Try.ntmps6
  go_wp2_with (first
    | (go_at_call 23; ((with_reducible refine (hS'.out _).mono ?_); rintro e w2 ⟨rfl, hB2⟩; have b2 : Below w.heap.size w w2 := hB2))
    | (go_at_call 24; ((with_reducible refine (hI'.out _).mono ?_); rintro e w5 ⟨rfl, hB5⟩; have hO5 : Own w5 w2.heap.size (bcl m rs cs) 38 := hO3.below hB5 hO3.lt; have b5 := b3.trans (hB5.mono b3.size)))
    | (refine wpList_load_row rfl 38 _ rfl _ rfl 38 _ (0, 0) _ (hO6) Try.underlying38 rfl (rowB (b33 _ _ _ (hh.out) (hh2.out))) ?_)
    | (refine wpList_load_row rfl 38 _ rfl _ rfl 38 _ (0, 0) _ ((hO5.alloc _).only hN6 (Nat.ne_of_lt hO5.lt)) Try.underlying38 rfl (rowB (b33 _ _ _ (hh.out) (hh2.out))) ?_)
    | (go_at_call 25; refine (eqBl_same m rs cs hh.out hh2.out _).mono ?_; rintro e w7 ⟨rfl, hB7⟩)
    | (refine wpList_store_own rfl 38 _ _ rfl _ _ rfl rfl 38 _ (Own.new w5 _ _) (rowB (b33 _ _ _ (hh.out) (hh2.out))) (zb _ _ _ hh.out hh2.out) (bcl_one _ _ _) ?_; intro w6 hO6 hN6)
    | ((refine wpList_store_own rfl 38 _ _ rfl _ _ rfl rfl 38 _ (Own.new w2 _ _) (rowB (b33 _ _ _ (hh.out) (hh2.out))) (zb _ _ _ hh.out hh2.out) (bcl_one _ _ _) ?_; intro w3 hO3 hN3); have b3 : Below w.heap.size w w3 := (b2.alloc b2.size _).trans (hN3.below.mono b2.size)))
  go_ret
  have b6 : Below w.heap.size w w6 := (b5.alloc b5.size _).trans (hN6.below.mono b5.size)
  exact ⟨rfl, b6.trans (hB7.mono b6.size)⟩
set_option maxRecDepth 100000 in
theorem pab_big (s : ByteArray) (w : World) (hm : s.size ≤ maxLen) (h : 1048576 < s.size) : Calls Try.prog 6 #[.string s] w fun e w' => e = .returned (.bool true) ∧ Below w.heap.size w w' := by
  unfold maxLen at hm
  go_enter Try.func6, Try.ntmps6
  go_wp2
  go_ret
  exact ⟨rfl, Below.refl _ _⟩
theorem pab_law (s : ByteArray) (w : World) (hm : s.size ≤ maxLen) : Calls Try.prog 6 #[.string s] w fun e w' => e = .returned (.bool true) ∧ Below w.heap.size w w' := by
  by_cases h : s.size ≤ 1048576
  · have hl := pab_len (LI s.data.toList)
    exact ParseBlobbed_walk s w h _ _ _ _ hl.1 hl.2 (fun w => pabS_any s h w) (fun w => pabI_any s h w)
  · exact pab_big s w hm (by omega)
end Go.Proofs.Ytbegolbognkefaa
