/- The program's reading of texts of diagrams with blobs. -/
import Derived.Test.YtbegolbognkefaaTob
import Derived.Test.YtbegolbognkefaaIsb
namespace Go.Proofs.Ytbegolbognkefaa
open Go.RowKit Go.Lib
set_option linter.unusedVariables false
set_option linter.unusedSimpArgs false
/-- The letters without the blobs of the first j parts, and the places of these blobs. -/
def unb (L : List Int) (P : List (Nat × Nat)) : Nat → List Int × List Int
  | 0 => (L, [])
  | j + 1 =>
    if (unb L P j).1.getD (P.getD j (0, 0)).1 0 = 91 ∧ (unb L P j).1.getD ((P.getD j (0, 0)).2 - 1) 0 = 93 then
      ((((unb L P j).1.set (P.getD j (0, 0)).1 40).set ((P.getD j (0, 0)).2 - 1) 41), (unb L P j).2 ++ [((P.getD j (0, 0)).1 : Int)])
    else unb L P j
theorem unb_len (L : List Int) (P : List (Nat × Nat)) (j : Nat) : (unb L P j).1.length = L.length ∧ (unb L P j).2.length ≤ j := by
  induction j with
  | zero => exact ⟨rfl, by simp [unb]⟩
  | succ j ih =>
    rw [unb]
    split
    · exact ⟨by simp [ih.1], by simp; omega⟩
    · exact ⟨ih.1, by omega⟩
theorem unb_mem (L : List Int) (P : List (Nat × Nat)) (j : Nat) (hj : j ≤ P.length) : ∀ x ∈ (unb L P j).2, ∃ q ∈ P, x = (q.1 : Int) := by
  induction j with
  | zero => simp [unb]
  | succ j ih =>
    rw [unb]
    split
    · intro x hx
      simp only [List.mem_append, List.mem_singleton] at hx
      rcases hx with hx | rfl
      · exact ih (by omega) x hx
      · refine ⟨P.getD j (0, 0), ?_, rfl⟩
        rw [List.getD_eq_getElem?_getD, List.getElem?_eq_getElem (by omega)]
        exact List.getElem_mem _
    · exact ih (by omega)
theorem unb_yes (L : List Int) (P : List (Nat × Nat)) (j f e : Nat) (hP : P[j]? = some (f, e)) (M b : List Int) (h : unb L P j = (M, b)) (h1 : M.getD f 0 = 91) (h2 : M.getD (e - 1) 0 = 93) : unb L P (j + 1) = ((M.set f 40).set (e - 1) 41, b ++ [(f : Int)]) := by
  have : P.getD j (0, 0) = (f, e) := by rw [List.getD_eq_getElem?_getD, hP]; rfl
  rw [unb, this, h, if_pos ⟨h1, h2⟩]
theorem unb_no (L : List Int) (P : List (Nat × Nat)) (j f e : Nat) (hP : P[j]? = some (f, e)) (M b : List Int) (h : unb L P j = (M, b)) (h1 : ¬ (M.getD f 0 = 91 ∧ M.getD (e - 1) 0 = 93)) : unb L P (j + 1) = (M, b) := by
  have : P.getD j (0, 0) = (f, e) := by rw [List.getD_eq_getElem?_getD, hP]; rfl
  rw [unb, this, h, if_neg h1]
/-- The blobs of the first j places. -/
def bsK (n : Int) (ms : List Int) (b : List Int) : Nat → List Bool
  | 0 => zbs
  | j + 1 => wbl (bsK n ms b j) (pl n (b.getD j 0)) (mate ms (pl n (b.getD j 0)))
theorem bsK_len (n : Int) (ms : List Int) (b : List Int) (j : Nat) : (bsK n ms b j).length = 16 := by
  induction j with
  | zero => rfl
  | succ j ih => rw [bsK, wbl_len, ih]
def u8s (M : List Int) : List UInt8 := M.map fun n => UInt8.ofNat n.toNat
/-- What letters are read as. -/
def botP (L : List Int) : Option (Int × List Int × List Bool) :=
  match parse (u8s (unb L (cutP L L.length).1 (cutP L L.length).1.length).1) with
  | none => none
  | some (n, ms) => some (n, ms, bsK n ms (unb L (cutP L L.length).1 (cutP L L.length).1.length).2 (unb L (cutP L L.length).1 (cutP L L.length).1.length).2.length)
def BotPost (L : List Int) (w : World) (e : Ending) (w' : World) : Prop :=
  (match botP L with | none => e = .returned (.tuple #[.agg zbl, .bool false]) | some (n, ms, bs) => e = .returned (.tuple #[.agg (bcl n ms bs), .bool true])) ∧ Below w.heap.size w w'
theorem parse_len2 (l : List UInt8) (n : Int) (ms : List Int) (h : parse l = some (n, ms)) : (l.length : Int) = 2 * n := by
  unfold parse at h
  split at h
  · split at h
    · simp at h; omega
    · simp at h
  · simp at h
theorem joinL_bytes {ms : List Int} (h : Bytes ms) (i j : Int) (hi : 0 ≤ i ∧ i ≤ 255) (hj : 0 ≤ j ∧ j ≤ 255) : Bytes (joinL ms i j) := by
  intro x hx
  unfold joinL at hx
  rcases List.mem_or_eq_of_mem_set hx with hx | rfl
  · rcases List.mem_or_eq_of_mem_set hx with hx | rfl
    · exact h x hx
    · exact hj
  · exact hi
theorem pst_bytes (n : Int) (l : List UInt8) (h0 : 0 ≤ n) (h8 : n ≤ 8) (k : Nat) (hk : (k : Int) ≤ 2 * n) (ms o : List Int) (h : pst n l k = some (ms, o)) : Bytes ms := by
  induction k generalizing ms o with
  | zero =>
    simp [pst] at h; obtain ⟨rfl, rfl⟩ := h
    intro x hx; unfold zeros at hx; rw [List.mem_replicate] at hx; omega
  | succ k ih =>
    unfold pst at h
    cases hp : pst n l k with
    | none => rw [hp] at h; simp at h
    | some q =>
      obtain ⟨ms', o'⟩ := q
      have h1 := ih (by omega) ms' o' hp
      have h2 := (pst_len _ _ _ _ _ hp).2.2
      rw [hp] at h
      simp only at h
      split at h
      · simp at h; obtain ⟨rfl, rfl⟩ := h; exact h1
      · split at h
        · cases hl : o'.getLast? with
          | none => rw [hl] at h; simp at h
          | some y =>
            rw [hl] at h; simp at h; obtain ⟨rfl, rfl⟩ := h
            have hy := h2 y (List.mem_of_getLast? hl)
            have a := pl_bd n y h8 hy.1 (by omega)
            have b := pl_bd n k h8 (by omega) (by omega)
            exact joinL_bytes h1 _ _ (by omega) (by omega)
        · simp at h
theorem parse_bytes (l : List UInt8) (n : Int) (ms : List Int) (h : parse l = some (n, ms)) : Bytes ms := by
  unfold parse at h
  split at h
  · rename_i hb
    split at h
    · rename_i M hp
      simp at h; obtain ⟨e, rfl⟩ := h
      exact pst_bytes _ _ (by omega) hb.2.2 _ (by omega) _ _ hp
    · simp at h
  · simp at h
theorem parse_net (l : List UInt8) (n : Int) (ms : List Int) (h : parse l = some (n, ms)) : Net n ms := Net.of (parse_bytes l n ms h) (parse_isS l n ms h)
theorem bot_none {L M b : List Int} (hu : unb L (cutP L L.length).1 (cutP L L.length).1.length = (M, b)) (h : parse (u8s M) = none) (w w' : World) (hB : Below w.heap.size w w') : BotPost L w (.returned (.tuple #[.agg zbl, .bool false])) w' := by
  have e : botP L = none := by unfold botP; rw [hu, h]
  unfold BotPost; rw [e]; exact ⟨rfl, hB⟩
theorem bot_some {L M b : List Int} (hu : unb L (cutP L L.length).1 (cutP L L.length).1.length = (M, b)) (n : Int) (ms : List Int) (h : parse (u8s M) = some (n, ms)) (w w' : World) (hB : Below w.heap.size w w') : BotPost L w (.returned (.tuple #[.agg (bcl n ms (bsK n ms b b.length)), .bool true])) w' := by
  have e : botP L = some (n, ms, bsK n ms b b.length) := by unfold botP; rw [hu, h]
  unfold BotPost; rw [e]; exact ⟨rfl, hB⟩
theorem two_byf (w : World) (g g2 : Nat) (A B : Array Value) (t1 t2 : TypeId) (f1 f2 : Nat × Nat) (h1 : w.heap[g]? = some (.cells A t1 f1)) (h2 : w.heap[g2]? = some (.cells B t2 f2)) (ht : t1 ≠ t2) : g ≠ g2 := by
  rintro rfl
  rw [h1] at h2
  simp at h2
  exact ht h2.2.1
set_option maxRecDepth 100000 in
set_option maxHeartbeats 8000000 in
theorem botI_any (s : ByteArray) (hs : s.size ≤ 1048576) (w : World) :
    Calls Try.prog 45 #[.string s] w (BotPost (LI s.data.toList) w) := by
  obtain ⟨N, hN⟩ : ∃ N, s.size = N := ⟨_, rfl⟩
  obtain ⟨L, hL⟩ : ∃ L, LI s.data.toList = L := ⟨_, rfl⟩
  have hLl : L.length = N := by rw [← hL, LI_len, size_list, hN]
  have hLb : Bytes L := by rw [← hL]; exact LI_bytes _
  obtain ⟨P, hP⟩ : ∃ P, (cutP L N).1 = P := ⟨_, rfl⟩
  have hcp := Lib.hid (show ∀ k, k < P.length → ∃ f e, P[k]? = some (f, e) ∧ f < e ∧ e ≤ N ∧ f = pend P k ∧ e = pend P (k + 1) from fun k hk => by rw [← hP] at hk ⊢; exact cut_part _ _ _ hk)
  have hpl := Lib.hid (show P.length ≤ N by rw [← hP]; exact (cutP_bd _ _).1)
  have hple := Lib.hid (show ∀ k, k ≤ P.length → pend P k ≤ N from fun k hk => by rw [← hP] at hk ⊢; exact pend_le _ _ _ hk)
  have hPlt : ∀ q ∈ P, q.1 < N := fun q hq => by
    rw [← hP] at hq
    have := (cutP_bd L N).2.2.2.2 q hq
    omega
  have hnone := Lib.hid (show ∀ M b, unb L P P.length = (M, b) → parse (u8s M) = none → ∀ w', Below w.heap.size w w' → BotPost L w (.returned (.tuple #[.agg zbl, .bool false])) w' from fun M b hu h w' hB => bot_none (by rw [hLl, hP]; exact hu) h w w' hB)
  have hsome := Lib.hid (show ∀ M b, unb L P P.length = (M, b) → ∀ n ms, parse (u8s M) = some (n, ms) → ∀ w', Below w.heap.size w w' → BotPost L w (.returned (.tuple #[.agg (bcl n ms (bsK n ms b b.length)), .bool true])) w' from fun M b hu n ms h w' hB => bot_some (by rw [hLl, hP]; exact hu) n ms h w w' hB)
  have hmem := Lib.hid (show ∀ j, j ≤ P.length → ∀ x ∈ (unb L P j).2, 0 ≤ x ∧ x < N from fun j hj x hx => by
    obtain ⟨q, hq, rfl⟩ := unb_mem L P j hj x hx
    have := hPlt q hq
    omega)
  have hul := Lib.hid (fun j => unb_len L P j)
  have hout := Lib.hid (show ∀ g cap w, N ≤ cap → RdL w g L → Calls Try.prog 63 #[.slice (some ⟨g, 0, none⟩) N cap] w fun e w' => ∃ g' cap', e = .returned (.slice (some ⟨g', 0, none⟩) P.length cap') ∧ Prs w' w.heap.size g' cap' (P.map (pv g)) ∧ Below w.heap.size w w' from fun g cap w hc hR => by
    have := out_any g N cap L hLl (by omega) hc hLb w hR
    unfold OutPost at this
    rw [hLl, hP] at this
    exact this)
  have hcs : ∀ w : World, (convert 9 66 (.string s)).run Try.prog w = .ok (.slice (some ⟨w.heap.size, 0, none⟩) N (grownCap w N 0 5)) (bytesWorld w 5 s) := fun w => by
    rw [← hN]
    exact Lib.run_convert_string_bytes w 9 66 5 s Try.underlying9 Try.underlying66 Try.underlying5
  have hge := Lib.hid (show ∀ w : World, N ≤ grownCap w N 0 5 from fun w => by have := grownCap_ge w N 0 5; omega)
  have hbyf := Lib.hid (show ∀ w : World, Byf (bytesWorld w 5 s) w.heap.size w.heap.size (grownCap w N 0 5) L from fun w => by
    have := Byf.conv w w.heap.size s (Nat.le_refl _) (by omega)
    rw [hN, hL] at this; exact this)
  have hmk := mk0i
  have hNb : N ≤ 1048576 := by omega
  have HL := Lib.hid hLl
  rw [hL]
  clear hs hN hL hLl hP hPlt hLb
  go_enter Try.func45, Try.ntmps45
  go_upto_region 1 with fail
  refine gen_world (fun x => Own x w.heap.size zbl 38 ∧ Below w.heap.size w x ∧ x.heap.size = w.heap.size + 1) ⟨Own.new _ _ _, (Below.refl _ _).alloc (Nat.le_refl _) _, by simp⟩ ?_
  rintro w1 ⟨hZ1, hB1, hs1⟩
  go_upto_region 2 with fail
  refine gen_world (fun x => Own x w.heap.size zbl 38 ∧ Below w.heap.size w x ∧ Byf x w1.heap.size w1.heap.size (grownCap w1 N 0 5) L ∧ x.heap.size = w1.heap.size + 1) ⟨hZ1.below (below_conv w1 w1.heap.size s (Nat.le_refl _)) hZ1.lt, hB1.trans (below_conv w1 w.heap.size s hB1.size), hbyf.out w1, bytesWorld_size _ _ _⟩ ?_
  rintro w2 ⟨hZ2, hB2, hL2, hs2⟩
  rw [hs1] at hL2 hs2
  obtain ⟨g1, hg1⟩ : ∃ x, x = w.heap.size + 1 := ⟨_, rfl⟩
  obtain ⟨cap1, hc1⟩ : ∃ x, x = grownCap w1 N 0 5 := ⟨_, rfl⟩
  have hcap : N ≤ cap1 := by rw [hc1]; exact hge.out w1
  have d1 : w.heap.size ≠ g1 := by omega
  have d0 : w.heap.size ≤ g1 := by omega
  rw [← hg1] at hL2 hs2 ⊢
  rw [← hc1] at hL2 ⊢
  clear hZ1 hB1 hs1 hg1 hc1 hge hbyf hcs
  go_wp2_with (first
    | (refine wpList_build_of rfl 89 #[] rfl #[] ?_ ?_; (exact builtK1))
    | (go_at_call 65; ((with_reducible refine (brk1_any _).mono ?_); rintro e w3 ⟨rfl, hB3⟩; have hZ3 := hZ2.below hB3 hZ2.lt; have hL3 := hL2.below hB3 hL2.lt; have b3 := hB2.trans (hB3.mono hB2.size)))
    | (go_at_call 63; ((with_reducible refine (hout.out _ _ _ hcap (RdL.of_byf (hL3.alloc _))).mono ?_); rintro e w4 ⟨g4, cap4, rfl, hP4, hB4⟩)))
  have l3 := hL3.lt
  have nI : Ints w4 (g1 + 1) w3.heap.size 0 [] := (Ints.new w3 (g1 + 1) _ _ (by omega) rfl (by decide) #[] rfl).below hB4 (by simp)
  have nZ : Own w4 w.heap.size zbl 38 := (hZ3.alloc _).below hB4 (by simp; have := hZ3.lt; omega)
  have nL : Byf w4 g1 g1 cap1 L := (hL3.alloc _).below hB4 (by simp; omega)
  have nB : Below w.heap.size w w4 := (b3.alloc b3.size _).trans (hB4.mono (by simp; have := b3.size; omega))
  have hg4 := hP4.1
  simp only [World.alloc, Array.size_push] at hg4
  have dg : w3.heap.size ≠ g4 := by omega
  have g4b : g1 < g4 := by omega
  have dL : w3.heap.size ≠ g1 := by omega
  obtain ⟨W3, hW3⟩ : ∃ x, x = (w3.alloc (.cells #[] 2)).heap.size := ⟨_, rfl⟩
  rw [← hW3] at hP4
  clear hW3 hZ3 hL3 b3 hB3 hB4 hZ2 hB2 hL2 hmk hout hg4 hcap
  go_loopw [7, 8, 28] (fun bl pl' i wr => ∃ (k g cap : Nat) (M b : List Int), k ≤ P.length ∧ i = .int .i64 k ∧ pl' = .int .i64 (pend P k : Nat) ∧ bl = .slice (some ⟨g, 0, none⟩) b.length cap ∧ g ≠ g4 ∧ Hid (unb L P k = (M, b)) ∧ Ints wr (g1 + 1) g cap b ∧ Own wr w.heap.size zbl 38 ∧ Prs wr W3 g4 cap4 (P.map (pv g1)) ∧ Byf wr g1 g1 cap1 M ∧ Below w.heap.size w wr) (fun _ _ i _ => (P.length - intOf i).toNat)
  case atStart => exact ⟨0, _, _, L, [], by omega, rfl, rfl, rfl, dg, Lib.hid rfl, nI, nZ, hP4, nL, nB⟩
  case round =>
    clear nI nZ hP4 nL nB dg dL l3
    obtain ⟨k, g, cap, M, b, hk, rfl, rfl, rfl, hne, hU, hI, hZ, hR, hM, hB⟩ := hrel
    have hpll := hpl.out
    have hu2 := hul.out k
    rw [hU.out] at hu2
    have hMl := Lib.hid (hu2.1.trans HL.out)
    have hbl := hu2.2
    simp only at hbl
    have hgb := hI.1
    by_cases hlt : k < P.length
    · obtain ⟨f, e, hPk, hfe, heN, hf, he⟩ := hcp.out k hlt
      have c1 := hR.cell k (by rw [List.length_map]; exact hlt)
      rw [List.getElem?_map, hPk] at c1
      have c1' : wr.cell? ⟨g4, k, none⟩ = some (.slice (some ⟨g1, f, none⟩) (e - f) (e - f)) := c1
      have ef2 : 1 ≤ ((e - f : Nat) : Int) := by omega
      have ef3 : ((e - f : Nat) : Int) ≤ 1048576 := by omega
      have e1 : (f : Int) + ((e - f : Nat) : Int) = (e : Int) := by omega
      have eN : (e : Int) ≤ 1048576 := by omega
      obtain ⟨q, hq⟩ : ∃ q, e - f = q := ⟨_, rfl⟩
      rw [hq] at c1' ef2 ef3 e1
      have ef6 : ((q : Int) - 1).toNat = q - 1 := by omega
      have hq1 : 1 ≤ q := by omega
      obtain ⟨x, hx⟩ : ∃ x, e - 1 = x := ⟨_, rfl⟩
      have ef5 : f + (q - 1) = x := by omega
      have xN : x < N := by omega
      have fN : f < N := by omega
      have kI : (k : Int) < (P.length : Int) := by omega
      have m1 := hM.cell f (by rw [hMl.out]; exact fN)
      have m2 := hM.cell x (by rw [hMl.out]; exact xN)
      have f1 := hM.free f (by rw [hMl.out]; exact fN)
      have f2 := hM.free x (by rw [hMl.out]; exact xN)
      obtain ⟨v1, hv1⟩ : ∃ v, M.getD f 0 = v := ⟨_, rfl⟩
      obtain ⟨v2, hv2⟩ : ∃ v, M.getD x 0 = v := ⟨_, rfl⟩
      rw [hv1] at m1
      rw [hv2] at m2
      have hY := Lib.hid (unb_yes L P k f e hPk M b hU.out)
      have hNo := Lib.hid (unb_no L P k f e hPk M b hU.out)
      rw [hx] at hY hNo
      have HV1 := Lib.hid hv1
      have HV2 := Lib.hid hv2
      rw [← hf]
      have he' := Lib.hid he
      have hf' := Lib.hid hf
      clear hPk c1 hv1 hv2 he hf hx hu2
      by_cases hc1 : v1 = 91
      · have bc1 : (v1 == 91) = true := by simpa using hc1
        by_cases hc2 : v2 = 93
        · have bc2 : (v2 == 93) = true := by simpa using hc2
          have hN3 := Lib.hid (hY.out (HV1.out.trans hc1) (HV2.out.trans hc2))
          clear hc1 hc2 hY hNo HV1 HV2
          have hq100 : b.length < 2097152 := by omega
          have hsz := hB.size
          go_upto_region 11 with (first
            | (refine wpList_append_ints rfl (.tmp 48) (.tmp 50) rfl (g1 + 1) g cap b (f : Int) rfl (hI.alloc _) ⟨wr.heap.size, 0, none⟩ 1 rfl ((Own.new _ _ _).cell 0) hq100 (by have := hM.lt; simp; omega) ?_; intro g3 cap3 w5 hI5 hG5))
          have hR5 := (hR.alloc _).grown hG5 (fun e => hne e.symm)
          have hZ5 := (hZ.alloc _).grown hG5 (by omega)
          have hM5 := (hM.alloc _).grown hG5 (by omega)
          have hB5 : Below w.heap.size w w5 := (hB.alloc hsz _).grown hG5 (by simp; omega) (fun k e => by simp at e; omega)
          have hne3 : g3 ≠ g4 := by
            obtain ⟨_, _, _, cu, hcu, _⟩ := hI5
            obtain ⟨_, _, _, cv, hcv, _⟩ := hR5
            exact two_byf w5 g3 g4 cu cv _ _ _ _ hcu hcv (by decide)
          clear hR hZ hM hB hI hG5 m1 m2 f1 f2 c1'
          go_wp2_with (first
            | (refine wpList_build_of rfl 91 #[] rfl #[] ?_ ?_; (exact builtK0))
            | (go_at_call 66; ((with_reducible refine (brk0_any _).mono ?_); rintro e w6 ⟨rfl, hB6⟩; have hM6 := hM5.below hB6 hM5.lt; have m3 := hM6.cell f (by rw [hMl.out]; exact fN); have f3 := hM6.free f (by rw [hMl.out]; exact fN); have f4 := hM6.free x (by rw [hMl.out]; exact xN); have m4 := (hM6.set f (by rw [hMl.out]; exact fN) 40).cell x (by rw [List.length_set, hMl.out]; exact xN))))
          have hM7 := (hM6.set f (by rw [hMl.out]; exact fN) 40).set x (by rw [List.length_set, hMl.out]; exact xN) 41
          have hI6 := hI5.below hB6 hI5.lt
          have hI7 : Ints ((w6.setCell ⟨g1, f, none⟩ (.int .u8 40)).setCell ⟨g1, x, none⟩ (.int .u8 41)) (g1 + 1) g3 cap3 (b ++ [(f : Int)]) := by
            have g3b := hI6.1
            obtain ⟨p1, p2, p3, cur, ho, hs, ht⟩ := hI6
            exact ⟨p1, p2, p3, cur, (ho.other (a := ⟨g1, f, none⟩) (by simp; omega) _).other (a := ⟨g1, x, none⟩) (by simp; omega) _, hs, ht⟩
          have hZ6 := ((hZ5.below hB6 hZ5.lt).other (a := ⟨g1, f, none⟩) (fun h => d1 h.symm) (.int .u8 40)).other (a := ⟨g1, x, none⟩) (fun h => d1 h.symm) (.int .u8 41)
          have hR6 := ((hR5.below hB6 hR5.lt).set (a := ⟨g1, f, none⟩) (fun h => by simp at h; omega) (.int .u8 40)).set (a := ⟨g1, x, none⟩) (fun h => by simp at h; omega) (.int .u8 41)
          have hB7 := ((hB5.trans (hB6.mono hB5.size)).setCell (p := ⟨g1, f, none⟩) d0 (.int .u8 40)).setCell (p := ⟨g1, x, none⟩) d0 (.int .u8 41)
          go_roundw
          case rel => exact ⟨k + 1, g3, cap3, _, _, by omega, by go_num, by rw [← he'.out], by unfold ival; rfl, hne3, hN3, hI7, hZ6, hR6, hM7, hB7⟩
          case measure => simp [intOf]; omega
        · have bc2 : (v2 == 93) = false := by simpa using hc2
          have hN3 := Lib.hid (hNo.out (fun h => hc2 (HV2.out.symm.trans h.2)))
          clear hc1 hc2 hY hNo HV1 HV2
          go_wp2
          go_roundw
          case rel => exact ⟨k + 1, g, cap, M, b, by omega, by go_num, by rw [← he'.out], rfl, hne, hN3, hI, hZ, hR, hM, hB⟩
          case measure => simp [intOf]; omega
      · have bc1 : (v1 == 91) = false := by simpa using hc1
        have hN3 := Lib.hid (hNo.out (fun h => hc1 (HV1.out.symm.trans h.1)))
        clear hc1 hY hNo HV1 HV2
        go_wp2
        go_roundw
        case rel => exact ⟨k + 1, g, cap, M, b, by omega, by go_num, by rw [← he'.out], rfl, hne, hN3, hI, hZ, hR, hM, hB⟩
        case measure => simp [intOf]; omega
    · have e : k = P.length := by omega
      subst e
      have hlen := hMl.out
      obtain ⟨_, hcap1, _, cur, fz, hcur, _, hcs', hct⟩ := hM
      have hcv := run_convert_bytes_arg wr 66 5 Try.underlying66 Try.underlying5 g1 0 N cap1 M hlen
        (fun i hi => by
          have e0 : wr.cell? ⟨g1, 0 + i, none⟩ = cur[i]? := by rw [Nat.zero_add]; simp [World.cell?, hcur]
          rw [e0]
          have e : (cur.toList.take M.length)[i]? = (M.map (Value.int .u8))[i]? := by rw [hct]
          rw [List.getElem?_take_of_lt (by rw [hlen]; exact hi)] at e
          simpa [show i < M.length by rw [hlen]; exact hi] using e) 9 Try.underlying9
      obtain ⟨S, hS⟩ : ∃ S, strOfNums M = S := ⟨_, rfl⟩
      rw [hS] at hcv
      have hSd : S.data.toList = u8s M := by rw [← hS, strOfNums_data]; rfl
      have hSs : S.size ≤ maxLen := by
        have : S.data.toList.length = M.length := by rw [hSd]; simp [u8s]
        rw [size_list] at this
        rw [this, hlen]; unfold maxLen; omega
      have hdot := dot_any S
      have hsz := hB.size
      have hZl := hZ.lt
      have hIl := hI.lt
      cases hp : parse (u8s M) with
      | none =>
        have hd := Lib.hid (fun w => (dot_any S w hSs).mono fun e w' (hd : DotPost S w e w') => show e = .returned (.tuple #[.agg zcells, .bool false]) ∧ Below w.heap.size w w' from ⟨by rw [hd.1, hSd, hp]; rfl, hd.2⟩)
        have hfin := Lib.hid (hnone.out M b hU.out hp)
        clear hp hdot hSs hSd hS hct hcs' hcur hcap1 hlen hR hI hU hu2
        go_wp2_with (first
          | ((go_at_call 61; ((with_reducible refine (hd.out _).mono ?_); rintro e w5 ⟨rfl, hB5⟩)); have hZ5 := hZ.below hB5 hZ.lt; have b5 := hB.trans (hB5.mono hsz))
          | (refine wpList_store_own rfl 28 _ _ rfl _ _ rfl rfl 28 _ (Own.new w5 _ _) (row26 (d17 _ _ (zlen))) (rfl) (dcells_one _ _) ?_; intro w6 hO6 hN6)
          | (refine wpList_build_of rfl 38 #[] rfl zbl ?_ ?_; (exact builtB0))
          | (refine wpList_store_own rfl 38 _ _ rfl _ _ rfl rfl 38 _ ((hZ5.alloc _).only hN6 (Nat.ne_of_lt hZ5.lt)) (rowB (b33 _ _ _ (zlen) (zbsl))) (rfl) (bcl_one _ _ _) ?_; intro w7 hO7 hN7))
        refine bodyPost_ret (v := .tuple #[.agg (zbl), .bool false]) (results_row_tmp rfl _ _ _ _ _ (0, 0) _ rfl (hO7) Try.underlying38 rfl (rowB (b33 _ _ _ (zlen) (zbsl))) _ rfl) rfl (hfin.out _ (((b5.alloc b5.size _).trans (hN6.below.mono b5.size)).trans (hN7.below.mono (Nat.le_refl _))))
      | some r =>
        obtain ⟨n, ms⟩ := r
        have hd := Lib.hid (fun w => (dot_any S w hSs).mono fun e w' (hd : DotPost S w e w') => show e = .returned (.tuple #[.agg (dcells n ms), .bool true]) ∧ Below w.heap.size w w' from ⟨by rw [hd.1, hSd, hp]; rfl, hd.2⟩)
        have hfin := Lib.hid (hsome.out M b hU.out n ms hp)
        have hms := Lib.hid (parse_len _ _ _ hp)
        have hnet := parse_net _ _ _ hp
        have hnm := Lib.hid (fun (i : Int) h0 h2 => net_mate hnet i h0 h2)
        have h2n := parse_len2 _ _ _ hp
        rw [show (u8s M).length = N by simp [u8s, hlen]] at h2n
        obtain ⟨h1, h8⟩ := hnet.bd
        have hm2 := hmem.out P.length (Nat.le_refl _)
        rw [hU.out] at hm2
        have hbm := Lib.hid hm2
        have hbl2 : b.length ≤ 16 := by omega
        clear hp hdot hSs hSd hS hct hcs' hcur hcap1 hlen hR hU hu2 hnet hm2
        go_wp2_with (first
          | ((go_at_call 61; ((with_reducible refine (hd.out _).mono ?_); rintro e w5 ⟨rfl, hB5⟩)); have hZ5 := hZ.below hB5 hZ.lt; have hI5 := hI.below hB5 hI.lt; have b5 := hB.trans (hB5.mono hsz))
          | (refine wpList_store_own rfl 28 _ _ rfl _ _ rfl rfl 28 _ (Own.new w5 _ _) (row26 (d17 _ _ (hms.out))) (z_eq (d17 _ _ hms.out)) (dcells_one _ _) ?_; intro w6 hO6 hN6)
          | (refine wpList_load_row rfl 28 _ rfl _ rfl 28 _ (0, 0) _ (hO6) Try.underlying28 rfl (row26 (d17 _ _ (hms.out))) ?_)
          | (refine wpList_build_of rfl 38 #[(0, .tmp 76)] rfl (bcl n ms zbs) ?_ ?_; (exact builtB1 _ _ hms.out))
          | (refine wpList_store_own rfl 38 _ _ rfl _ _ rfl rfl 38 _ (Own.new w6 _ _) (rowB (b33 _ _ _ (hms.out) (zbsl))) (zb _ _ _ hms.out zbsl) (bcl_one _ _ _) ?_; intro w7 hO7 hN7))
        have s5 := b5.size
        have s6 : w6.heap.size = w5.heap.size + 1 := by rw [hN6.size]; simp
        have i5 := hI5.lt
        have z5 := hZ5.lt
        have nD : Own w7 w5.heap.size (dcells n ms) 28 := (hO6.alloc _).only hN7 (by omega)
        have nZ : Own w7 w.heap.size zbl 38 := (((hZ5.alloc _).only hN6 (by omega)).alloc _).only hN7 (by omega)
        have nI : Ints w7 (g1 + 1) g cap b := (((hI5.alloc _).only hN6 (by omega)).alloc _).only hN7 (by omega)
        have nB : Below w.heap.size w w7 := (((b5.alloc s5 _).trans (hN6.below.mono s5)).alloc (by omega) _).trans (hN7.below.mono (by omega))
        obtain ⟨b12, h12⟩ : ∃ x, x = w5.heap.size := ⟨_, rfl⟩
        obtain ⟨b14, h14⟩ : ∃ x, x = w6.heap.size := ⟨_, rfl⟩
        rw [← h12] at nD s6 s5 i5 z5 ⊢
        rw [← h14] at hO7 s6 ⊢
        have d14 : b12 < b14 := by omega
        clear s6
        clear h12 h14 hB5 hN6 hN7 hO6 hZ5 hI5 b5 hZ hB hI hd hsz hZl hIl
        go_loopw [80] (fun i wr => ∃ j : Nat, j ≤ b.length ∧ i = .int .i64 j ∧ Own wr b14 (bcl n ms (bsK n ms b j)) 38 ∧ Own wr b12 (dcells n ms) 28 ∧ Ints wr (g1 + 1) g cap b ∧ Own wr w.heap.size zbl 38 ∧ Below w.heap.size w wr) (fun i _ => (b.length - intOf i).toNat)
        case atStart => exact ⟨0, by omega, rfl, hO7, nD, nI, nZ, nB⟩
        case round =>
          clear hO7 nD nI nZ nB
          obtain ⟨j, hj, rfl, hO, hD, hI, hZ, hB⟩ := hrel
          have hkl := Lib.hid (bsK_len n ms b j)
          by_cases hlt : j < b.length
          · obtain ⟨y, hy⟩ : ∃ y, b.getD j 0 = y := ⟨_, rfl⟩
            have yb : 0 ≤ y ∧ y < N := by
              rw [← hy, List.getD_eq_getElem?_getD, List.getElem?_eq_getElem hlt]
              exact hbm.out _ (List.getElem_mem hlt)
            obtain ⟨y0, y1⟩ := yb
            have c1 := hI.cell j hlt
            rw [hy] at c1
            have pb := pl_bd n y h8 y0 (by omega)
            obtain ⟨p, hp⟩ : ∃ p, pl n y = p := ⟨_, rfl⟩
            rw [hp] at pb
            obtain ⟨p0, p1, p2⟩ := pb
            have hmm := hnm.out p p0 p1
            obtain ⟨m, hm⟩ : ∃ m, mate ms p = m := ⟨_, rfl⟩
            rw [hm] at hmm
            have hst := Lib.hid (show bsK n ms b (j + 1) = wbl (bsK n ms b j) p m by rw [bsK, hy, hp, hm])
            have q1 := Lib.hid (show ∀ wd : World, Calls Try.prog 64 #[.int .i64 n, .int .i64 y] wd fun e w' => e = .returned (.int .i64 p) ∧ w' = wd from fun wd => by
              have := pointI_any n y wd (by omega) h8 y0 (by omega)
              rw [hp] at this
              exact this.mono (fun e w' h => ⟨h.1, h.2.symm⟩))
            have q2 := Lib.hid (fun wd => withB_any n ms (bsK n ms b j) hms.out hkl.out p m p0 p2 hm hmm.1 (by omega) wd)
            have jI : (j : Int) < (b.length : Int) := by omega
            clear hy hp hm hmm
            go_upto_region 21 with fail
            refine gen_world (fun x => Own x b14 (bcl n ms (bsK n ms b j)) 38 ∧ Own x b12 (dcells n ms) 28 ∧ Ints x (g1 + 1) g cap b ∧ Own x w.heap.size zbl 38 ∧ Below w.heap.size w x) ⟨hO, hD, hI, hZ, hB⟩ ?_
            clear hO hD hI hZ hB c1
            rintro wx ⟨hO, hD, hI, hZ, hB⟩
            refine wp_region_st (fun x => Own x b14 (bcl n ms (bsK n ms b j)) 38 ∧ Own x b12 (dcells n ms) 28) [(true, 0), (true, 1), (true, 2), (true, 3), (true, 4), (false, 5)] 6 (by kernel_rfl) (by kernel_rfl) ⟨hO.drewN 1, hD.drewN 1⟩ ?_
            have hOd : Own { wx with drawn := wx.drawn + 1 } b14 (bcl n ms (bsK n ms b j)) 38 := hO
            have hDd : Own { wx with drawn := wx.drawn + 1 } b12 (dcells n ms) 28 := hD
            have hId : Ints { wx with drawn := wx.drawn + 1 } (g1 + 1) g cap b := hI
            have hZd : Own { wx with drawn := wx.drawn + 1 } w.heap.size zbl 38 := hZ
            have hBd : Below w.heap.size w { wx with drawn := wx.drawn + 1 } := hB.drew
            clear hO hD hI hZ hB
            generalize ({ wx with drawn := wx.drawn + 1 } : World) = w8 at *
            simp only [List.map_cons, List.map_nil, opS'_mk, opN_zero, opN_succ, List.drop_succ_cons, List.drop_zero]
            (apply wpSt_read; · (intro wd hS K hK; rw [if_pos (by rfl)]; refine still_load_row 38 (.tmp 14) rfl b14 rfl 38 (bcl n ms (bsK n ms b j)) _ hS.1 Try.underlying38 rfl (rowB (b33 _ _ _ hms.out hkl.out)) ?_; exact hK))
            (apply wpSt_read; · (intro wd hS K hK; clear hS; go_simp; exact hK))
            (apply wpSt_read; · (intro wd hS K hK; have d3 := hS.2.cell 0; rw [dcells_zero] at d3; clear hS; go_simp; exact hK))
            (apply wpSt_read; · (intro wd hS K hK; clear hS; go_simp; exact hK))
            (apply wpSt_read; · (intro wd hS K hK; clear hS; go_simp; exact ⟨_, q1.out _, hK⟩))
            refine wpSt_keep (fun K hK => ?_)
            go_wp2_with (first
              | (go_at_call 67; ((with_reducible refine (q2.out w8).mono ?_); rintro e w9 ⟨rfl, hB9⟩)))
            refine hK _ _ ⟨hOd.below hB9 hOd.lt, hDd.below hB9 hDd.lt⟩ rfl ?_
            clear hK K
            refine wpSt_nil ?_
            have hwl := Lib.hid (show (wbl (bsK n ms b j) p m).length = 16 by rw [wbl_len]; exact hkl.out)
            have hO9 := hOd.below hB9 hOd.lt
            have hD9 := hDd.below hB9 hDd.lt
            have hI9 := hId.below hB9 hId.lt
            have hZ9 := hZd.below hB9 hZd.lt
            have b9 := hBd.trans (hB9.mono hBd.size)
            go_wp2_with (first
              | (refine wpList_store_own rfl 38 _ _ rfl _ _ rfl rfl 38 _ (hO9) (rowB (b33 _ _ _ (hms.out) (hwl.out))) (bb _ _ _ _ _ _ hms.out hkl.out hms.out hwl.out) (bcl_one _ _ _) ?_; intro wa hOa hNa))
            go_roundw
            case rel => exact ⟨j + 1, by omega, by go_num, by rw [hst.out]; exact hOa, hD9.only hNa (by omega), hI9.only hNa (by omega), hZ9.only hNa (by omega), b9.trans (hNa.below.mono (by omega))⟩
            case measure => simp [intOf]; omega
          · have e : j = b.length := by omega
            subst e
            go_wp2_with (first
              | (refine wpList_load_row rfl 38 _ rfl _ rfl 38 _ (0, 0) _ (hO) Try.underlying38 rfl (rowB (b33 _ _ _ (hms.out) (hkl.out))) ?_)
              | (refine wpList_store_own rfl 38 _ _ rfl _ _ rfl rfl 38 _ (hZ) (rowB (b33 _ _ _ (hms.out) (hkl.out))) (zb _ _ _ hms.out hkl.out) (bcl_one _ _ _) ?_; intro wa hOa hNa))
            refine bodyPost_ret (v := .tuple #[.agg (bcl n ms (bsK n ms b b.length)), .bool true]) (results_row_tmp rfl _ _ _ _ _ (0, 0) _ rfl (hOa) Try.underlying38 rfl (rowB (b33 _ _ _ (hms.out) (hkl.out))) _ rfl) rfl (hfin.out _ (hB.trans (hNa.below.mono (Nat.le_refl _))))
end Go.Proofs.Ytbegolbognkefaa
