/- BlobbedText: the model's text, and the law. -/
import Derived.Test.YtbegolbognkefaaBla
import Derived.Test.YtbegolbognkefaaTextM
namespace Go.Proofs.Ytbegolbognkefaa
open Go.RowKit Go.Lib
set_option linter.unusedVariables false
set_option linter.unusedSimpArgs false
/-- The model's letter at a place. -/
def tcS (n : Int) (ms : List Int) (bs : List Bool) (k : Nat) : Int := if bs.getD (pl n k).toNat false = true then (if (k : Int) < qq n ms k then 91 else 93) else (if (k : Int) < qq n ms k then 40 else 41)
def txS (n : Int) (ms : List Int) (bs : List Bool) : Nat → List Int
  | 0 => []
  | k + 1 => txS n ms bs k ++ [tcS n ms bs k]
theorem txS_len (n : Int) (ms : List Int) (bs : List Bool) (k : Nat) : (txS n ms bs k).length = k := by
  induction k with
  | zero => rfl
  | succ k ih => simp [txS, ih]
theorem txS_get (n : Int) (ms : List Int) (bs : List Bool) (k i : Nat) (h : i < k) : (txS n ms bs k).getD i 0 = tcS n ms bs i := by
  induction k with
  | zero => omega
  | succ k ih =>
    rw [txS]
    by_cases e : i < k
    · rw [getD_app _ _ _ _ (by rw [txS_len]; exact e)]; exact ih e
    · have : i = k := by omega
      subst this
      have := getD_last (txS n ms bs i) (tcS n ms bs i) 0
      rwa [txS_len] at this
/-- The program's letters are the model's. -/
theorem txS_LB {n : Int} {ms : List Int} {bs : List Bool} (hms : ms.length = 16) (hB : isB n ms bs = true) (h : Net n ms) : txS n ms bs (2 * n).toNat = LB n ms bs := by
  have hn := h.bd
  obtain ⟨w1, w2⟩ := LB_W h bs
  have hok : ∀ i, i < 16 → okB n ms bs i = true := fun i hi => by
    unfold isB at hB
    rw [Bool.and_eq_true, List.all_eq_true] at hB
    exact hB.2 i (by simpa using hi)
  refine list_ext _ _ 0 (by rw [txS_len, LB_len n ms bs (by omega)]) (fun k hk => ?_)
  rw [txS_len] at hk
  rw [txS_get _ _ _ _ _ hk]
  have pk := pl_bd n k hn.2 (by omega) (by omega)
  by_cases hx : ∃ s ∈ starts n ms (2 * n).toNat, k = s ∨ (k : Int) = qq n ms s
  · obtain ⟨s, hs, e⟩ := hx
    obtain ⟨e1, e2, e3, e4, e5⟩ := starts_ends h s hs
    obtain ⟨x1, x2⟩ := w1 s hs
    have ps := pl_bd n s hn.2 (by omega) (by omega)
    have pq := pl_bd n (qq n ms s) hn.2 (by omega) (by omega)
    rcases e with rfl | e
    · rw [x1]
      unfold tcS oc
      simp only [e2, if_true]
    · have hk2 : k = (qq n ms s).toNat := by omega
      rw [show (LB n ms bs).getD k 0 = (LB n ms bs).getD (qq n ms s).toNat 0 by rw [hk2], x2]
      unfold tcS cc
      rw [e, e4]
      simp only [show ¬ (qq n ms (s : Int) < (s : Int)) by omega, if_false]
      have hbb : bs.getD (pl n (qq n ms s)).toNat false = bs.getD (pl n (s : Int)).toNat false := by
        have key : ∀ a : Int, 0 ≤ a → a < 2 * n → bs.getD a.toNat false = true → bs.getD (mate ms a).toNat false = true := fun a a0 a2 ha => by
          have o := hok a.toNat (by omega)
          unfold okB at o
          rw [ha] at o
          simp only [Bool.not_true, Bool.false_or, Bool.and_eq_true] at o
          have := o.2
          rwa [show ((a.toNat : Nat) : Int) = a by omega] at this
        rw [Bool.eq_iff_iff]
        constructor
        · intro ha
          have := key _ pq.1 pq.2.1 ha
          rwa [h.mt _ (by omega) e3, e4] at this
        · intro ha
          have := key _ ps.1 ps.2.1 ha
          rwa [h.mt _ (by omega) e1] at this
      rw [hbb]
  · rw [w2 k (fun s hs => ⟨fun e => hx ⟨s, hs, .inl e⟩, fun e => hx ⟨s, hs, .inr e⟩⟩), LT_get n ms k (by omega)]
    unfold tcS
    rw [if_neg]
    intro hb
    have o := hok (pl n (k : Int)).toNat (by omega)
    unfold okB at o
    rw [hb] at o
    simp only [Bool.not_true, Bool.false_or, Bool.and_eq_true] at o
    obtain ⟨s, hs, e⟩ := (open_at h _ (by omega)).1 o.1.2
    obtain ⟨e1, e2, e3, e4, e5⟩ := starts_ends h s hs
    have ps := pl_bd n s hn.2 (by omega) (by omega)
    have pq := pl_bd n (qq n ms s) hn.2 (by omega) (by omega)
    apply hx
    refine ⟨s, hs, ?_⟩
    rcases e with e | e
    · left
      have := pl_inj (n := n) (a := k) (b := s) (by omega) (by omega) (by omega) (by omega) (by omega)
      omega
    · right
      exact pl_inj (n := n) (by omega) (by omega) (by omega) (by omega) (by omega)
set_option maxRecDepth 100000 in
set_option maxHeartbeats 4000000 in
theorem txtS_any (n : Int) (ms : List Int) (bs : List Bool) (hms : ms.length = 16) (hbs : bs.length = 16) (hb : Bytes ms) (hn : Net n ms) (w : World) :
    Calls Try.prog 47 #[.agg (bcl n ms bs)] w fun e w' => e = .returned (.string (strOfNums (txS n ms bs (2 * n).toNat))) ∧ Below w.heap.size w w' := by
  obtain ⟨h1, h8⟩ := hn.bd
  have hl := Lib.hid hms
  have hk := Lib.hid hbs
  obtain ⟨T, hT⟩ : ∃ T, textS n ms = T := ⟨_, rfl⟩
  obtain ⟨N, hN⟩ : ∃ N, (2 * n).toNat = N := ⟨_, rfl⟩
  have hTs : T.size = N := by
    have := text_len n ms (by omega)
    rw [hT, size_list] at this; omega
  have ht := Lib.hid (fun w => textM_any n ms hms hb w h1 h8)
  rw [hT] at ht
  have hTg := Lib.hid (show ∀ k : Nat, (k : Int) < 2 * n → T.data.toList[k]? = some (if (k : Int) < qq n ms k then 40 else 41) from fun k hk => by rw [← hT]; exact text_get n ms k hk)
  have hmk := mk0b
  have hN16 : N ≤ 16 := by omega
  have hN2 : (N : Int) = 2 * n := by omega
  rw [hN]
  clear hms hbs hb hn hT hN
  go_enter Try.func47, Try.ntmps47
  go_wp2_with (first
    | (refine wpList_load_part rfl 28 _ rfl _ 0 rfl (dcells _ _) _ (Own.bdia (Own.new _ _ _) (hl.out)) Try.underlying28 rfl (row26 (d17 _ _ (hl.out))) ?_)
    | ((go_at_call 69; ((with_reducible refine (ht.out _).mono ?_); rintro e w1 ⟨rfl, hB1⟩)); have hO1 : Own w1 w.heap.size (bcl n ms bs) 38 := (Own.new _ _ _).below hB1 (by simp); have b1 := ((Below.refl w.heap.size w).alloc (Nat.le_refl _) (.cells (bcl n ms bs) 38)).trans (hB1.mono (by simp))))
  have hlt1 := hO1.lt
  have nO : Own (w1.alloc (.cells #[] 5)) w.heap.size (bcl n ms bs) 38 := hO1.alloc _
  have nI : Bys (w1.alloc (.cells #[] 5)) (w.heap.size + 1) w1.heap.size 0 [] := Bys.new _ _ _ _ (by omega) rfl (by decide) #[] rfl
  have nB : Below w.heap.size w (w1.alloc (.cells #[] 5)) := b1.alloc b1.size _
  clear hmk hB1 hO1 b1 ht
  go_loopw [4, 5] (fun v i wr => ∃ (k g cap : Nat), k ≤ N ∧ i = .int .i64 k ∧ v = .slice (some ⟨g, 0, none⟩) k cap ∧ Own wr w.heap.size (bcl n ms bs) 38 ∧ Bys wr (w.heap.size + 1) g cap (txS n ms bs k) ∧ Below w.heap.size w wr) (fun _ i _ => (N - intOf i).toNat)
  case atStart => exact ⟨0, _, _, by omega, rfl, rfl, nO, nI, nB⟩
  case round =>
    clear nO nI nB
    obtain ⟨k, g, cap, hkN, rfl, rfl, hO, hI, hB⟩ := hrel
    have k0 := hO.cell 0
    rw [bcl_zero] at k0
    have hcl := txS_len n ms bs k
    obtain ⟨X, hX⟩ : ∃ X, txS n ms bs k = X := ⟨_, rfl⟩
    rw [hX] at hI hcl
    by_cases hlt : k < N
    · have hks : k < T.size := by omega
      have HG := get_list T k hks
      rw [hTg.out k (by omega)] at HG
      have pb := pl_bd n k h8 (by omega) (by omega)
      obtain ⟨p, hp⟩ : ∃ p, pl n (k : Int) = p := ⟨_, rfl⟩
      rw [hp] at pb
      obtain ⟨p0, p1, p2⟩ := pb
      have c1 := hO.cell (17 + p.toNat)
      rw [bcl_blob _ _ _ hl.out _ (by rw [hk.out]; omega)] at c1
      obtain ⟨b, hbv⟩ : ∃ b, bs.getD p.toNat false = b := ⟨_, rfl⟩
      rw [hbv] at c1
      have hst := Lib.hid (show txS n ms bs (k + 1) = X ++ [tcS n ms bs k] by rw [txS, hX])
      have htc : tcS n ms bs k = if b = true then (if (k : Int) < qq n ms k then 91 else 93) else (if (k : Int) < qq n ms k then 40 else 41) := by unfold tcS; rw [hp, hbv]
      have hP := Lib.hid hp
      have hCL := Lib.hid hcl
      have hsz := hB.size
      have hol := hO.lt
      have hgb := hI.1
      have hX100 : X.length < 1000000 := by omega
      have kI : (k : Int) < (N : Int) := by omega
      clear hp hbv hX
      by_cases hq : (k : Int) < qq n ms k
      · rw [if_pos hq] at HG
        have hc : T[k] = 40 := (Option.some.inj HG).symm
        have b40 : ((T[k].toNat : Int) == 40) = true := by rw [hc]; rfl
        have hc2 := Lib.hid (show ((T[k].toNat : Nat) : Int) = 40 by rw [hc]; rfl)
        clear HG hc
        cases b with
        | false =>
          have htc' := Lib.hid (show tcS n ms bs k = 40 by rw [htc, if_neg (by simp), if_pos hq])
          have htc' := htc'.out
          clear htc hq
          go_wp2_with (first
            | (go_at_call 39; ((with_reducible refine ((placeS_any n k _ (by omega) (by omega) (by omega) (by omega)).mono (fun e w' h => (by rw [hP.out] at h; exact h : e = .returned (.int .i64 p) ∧ w' = _))).mono ?_); rintro e w0 ⟨rfl, rfl⟩))
            | (refine wpList_append_bys rfl (.tmp 29) (.tmp 33) rfl (w.heap.size + 1) g cap X ((T[k].toNat : Nat) : Int) (by unfold bval; rw [hCL.out]; rfl) (hI.alloc _) ⟨w0.heap.size, 0, none⟩ 1 rfl ((Own.new _ _ _).cell 0) hX100 (by simp <;> omega) ?_; intro g3 cap3 w3 hI3 hG3))
          have hO3 := (hO.alloc _).grown hG3 (by omega)
          have hB3 : Below w.heap.size w w3 := (hB.alloc hsz _).grown hG3 (by simp; omega) (fun k e => by simp at e; omega)
          have hiv : bval g3 cap3 (X ++ [((T[k].toNat : Nat) : Int)]) = .slice (some ⟨g3, 0, none⟩) (k + 1) cap3 := by unfold bval; rw [List.length_append, hCL.out]; rfl
          have hI4 : Bys w3 (w.heap.size + 1) g3 cap3 (txS n ms bs (k + 1)) := by rw [hst.out, htc']; exact (by rw [← hc2.out]; exact hI3)
          go_roundw
          case rel => exact ⟨k + 1, g3, cap3, by omega, by go_num, hiv, hO3, hI4, hB3⟩
          case measure => simp [intOf]; omega
        | true =>
          have htc' := Lib.hid (show tcS n ms bs k = 91 by rw [htc, if_pos rfl, if_pos hq])
          have htc' := htc'.out
          clear htc hq
          go_wp2_with (first
            | (go_at_call 39; ((with_reducible refine ((placeS_any n k _ (by omega) (by omega) (by omega) (by omega)).mono (fun e w' h => (by rw [hP.out] at h; exact h : e = .returned (.int .i64 p) ∧ w' = _))).mono ?_); rintro e w0 ⟨rfl, rfl⟩))
            | (refine wpList_append_bys rfl (.tmp 40) (.tmp 41) rfl (w.heap.size + 1) g cap X 91 (by unfold bval; rw [hCL.out]; rfl) (hI.alloc _) ⟨w0.heap.size, 0, none⟩ 1 rfl ((Own.new _ _ _).cell 0) hX100 (by simp <;> omega) ?_; intro g3 cap3 w3 hI3 hG3))
          have hO3 := (hO.alloc _).grown hG3 (by omega)
          have hB3 : Below w.heap.size w w3 := (hB.alloc hsz _).grown hG3 (by simp; omega) (fun k e => by simp at e; omega)
          have hiv : bval g3 cap3 (X ++ [91]) = .slice (some ⟨g3, 0, none⟩) (k + 1) cap3 := by unfold bval; rw [List.length_append, hCL.out]; rfl
          have hI4 : Bys w3 (w.heap.size + 1) g3 cap3 (txS n ms bs (k + 1)) := by rw [hst.out, htc']; exact hI3
          go_roundw
          case rel => exact ⟨k + 1, g3, cap3, by omega, by go_num, hiv, hO3, hI4, hB3⟩
          case measure => simp [intOf]; omega
      · rw [if_neg hq] at HG
        have hc : T[k] = 41 := (Option.some.inj HG).symm
        have b40 : ((T[k].toNat : Int) == 40) = false := by rw [hc]; rfl
        have hc2 := Lib.hid (show ((T[k].toNat : Nat) : Int) = 41 by rw [hc]; rfl)
        clear HG hc
        cases b with
        | false =>
          have htc' := Lib.hid (show tcS n ms bs k = 41 by rw [htc, if_neg (by simp), if_neg hq])
          have htc' := htc'.out
          clear htc hq
          go_wp2_with (first
            | (go_at_call 39; ((with_reducible refine ((placeS_any n k _ (by omega) (by omega) (by omega) (by omega)).mono (fun e w' h => (by rw [hP.out] at h; exact h : e = .returned (.int .i64 p) ∧ w' = _))).mono ?_); rintro e w0 ⟨rfl, rfl⟩))
            | (refine wpList_append_bys rfl (.tmp 29) (.tmp 33) rfl (w.heap.size + 1) g cap X ((T[k].toNat : Nat) : Int) (by unfold bval; rw [hCL.out]; rfl) (hI.alloc _) ⟨w0.heap.size, 0, none⟩ 1 rfl ((Own.new _ _ _).cell 0) hX100 (by simp <;> omega) ?_; intro g3 cap3 w3 hI3 hG3))
          have hO3 := (hO.alloc _).grown hG3 (by omega)
          have hB3 : Below w.heap.size w w3 := (hB.alloc hsz _).grown hG3 (by simp; omega) (fun k e => by simp at e; omega)
          have hiv : bval g3 cap3 (X ++ [((T[k].toNat : Nat) : Int)]) = .slice (some ⟨g3, 0, none⟩) (k + 1) cap3 := by unfold bval; rw [List.length_append, hCL.out]; rfl
          have hI4 : Bys w3 (w.heap.size + 1) g3 cap3 (txS n ms bs (k + 1)) := by rw [hst.out, htc']; exact (by rw [← hc2.out]; exact hI3)
          go_roundw
          case rel => exact ⟨k + 1, g3, cap3, by omega, by go_num, hiv, hO3, hI4, hB3⟩
          case measure => simp [intOf]; omega
        | true =>
          have htc' := Lib.hid (show tcS n ms bs k = 93 by rw [htc, if_pos rfl, if_neg hq])
          have htc' := htc'.out
          clear htc hq
          go_wp2_with (first
            | (go_at_call 39; ((with_reducible refine ((placeS_any n k _ (by omega) (by omega) (by omega) (by omega)).mono (fun e w' h => (by rw [hP.out] at h; exact h : e = .returned (.int .i64 p) ∧ w' = _))).mono ?_); rintro e w0 ⟨rfl, rfl⟩))
            | (refine wpList_append_bys rfl (.tmp 16) (.tmp 17) rfl (w.heap.size + 1) g cap X 93 (by unfold bval; rw [hCL.out]; rfl) (hI.alloc _) ⟨w0.heap.size, 0, none⟩ 1 rfl ((Own.new _ _ _).cell 0) hX100 (by simp <;> omega) ?_; intro g3 cap3 w3 hI3 hG3))
          have hO3 := (hO.alloc _).grown hG3 (by omega)
          have hB3 : Below w.heap.size w w3 := (hB.alloc hsz _).grown hG3 (by simp; omega) (fun k e => by simp at e; omega)
          have hiv : bval g3 cap3 (X ++ [93]) = .slice (some ⟨g3, 0, none⟩) (k + 1) cap3 := by unfold bval; rw [List.length_append, hCL.out]; rfl
          have hI4 : Bys w3 (w.heap.size + 1) g3 cap3 (txS n ms bs (k + 1)) := by rw [hst.out, htc']; exact hI3
          go_roundw
          case rel => exact ⟨k + 1, g3, cap3, by omega, by go_num, hiv, hO3, hI4, hB3⟩
          case measure => simp [intOf]; omega
    · have e : k = N := by omega
      subst e
      have hlen := hcl
      obtain ⟨_, _, _, cur, hcur, hcs, hct⟩ := hI
      have hcv := run_convert_bytes_arg wr 66 5 Try.underlying66 Try.underlying5 g 0 k cap X hlen
        (fun i hi => by
          rw [Nat.zero_add, hcur.cell]
          have e : (cur.toList.take X.length)[i]? = (X.map (Value.int .u8))[i]? := by rw [hct]
          rw [List.getElem?_take_of_lt (by rw [hlen]; exact hi)] at e
          simpa [show i < X.length by rw [hlen]; exact hi] using e) 9 Try.underlying9
      rw [← hX] at hcv
      have hc9 := Lib.hid hct
      clear hcs hcl hlen hX hct
      go_wp2
      go_ret
      exact ⟨rfl, hB⟩
set_option maxRecDepth 100000 in
theorem btxS_ok (n : Int) (ms : List Int) (bs : List Bool) (hms : ms.length = 16) (hbs : bs.length = 16) (hb : Bytes ms) (hd : isB n ms bs = true) (T : ByteArray) (ht : ∀ w, Calls Try.prog 47 #[.agg (bcl n ms bs)] w fun e w' => e = .returned (.string T) ∧ Below w.heap.size w w') (w : World) :
    Calls Try.prog 21 #[.agg (bcl n ms bs)] w fun e w' => e = .returned (.tuple #[.string T, .int .i64 0]) ∧ Below w.heap.size w w' := by
  have hl := Lib.hid hms
  have hk := Lib.hid hbs
  have hc := Lib.hid (fun w => isBS_any n ms bs hms hbs hb w)
  have ht' := Lib.hid ht
  rw [hd] at hc
  clear hms hbs hb hd ht
  go_enter Try.func21, Try.ntmps21
  go_wp2_with (first
    | (refine wpList_load_row rfl 38 _ rfl _ rfl 38 _ (0, 0) _ (hO1) Try.underlying38 rfl (rowB (b33 _ _ _ (hl.out) (hk.out))) ?_)
    | (refine wpList_load_row rfl 38 _ rfl _ rfl 38 _ (0, 0) _ (Own.new _ _ _) Try.underlying38 rfl (rowB (b33 _ _ _ (hl.out) (hk.out))) ?_)
    | ((go_at_call 43; ((with_reducible refine (hc.out _).mono ?_); rintro e w1 ⟨rfl, hB1⟩)); have hO1 : Own w1 w.heap.size (bcl n ms bs) 38 := (Own.new _ _ _).below hB1 (by simp))
    | ((go_at_call 47; ((with_reducible refine (ht'.out _).mono ?_); rintro e w2 ⟨rfl, hB2⟩))))
  go_ret2
  have b0 : Below w.heap.size w (w.alloc (.cells (bcl n ms bs) 38)) := (Below.refl _ _).alloc (Nat.le_refl _) _
  have b1 := b0.trans (hB1.mono b0.size)
  exact ⟨rfl, b1.trans (hB2.mono b1.size)⟩
set_option maxRecDepth 100000 in
theorem btxS_bad (n : Int) (ms : List Int) (bs : List Bool) (hms : ms.length = 16) (hbs : bs.length = 16) (hb : Bytes ms) (hd : isB n ms bs = false) (w : World) :
    Calls Try.prog 21 #[.agg (bcl n ms bs)] w fun e w' => e = .returned (.tuple #[.string ⟨#[]⟩, .int .i64 1]) ∧ Below w.heap.size w w' := by
  have hl := Lib.hid hms
  have hk := Lib.hid hbs
  have hc := Lib.hid (fun w => isBS_any n ms bs hms hbs hb w)
  rw [hd] at hc
  clear hms hbs hb hd
  go_enter Try.func21, Try.ntmps21
  go_wp2_with (first
    | (refine wpList_load_row rfl 38 _ rfl _ rfl 38 _ (0, 0) _ (Own.new _ _ _) Try.underlying38 rfl (rowB (b33 _ _ _ (hl.out) (hk.out))) ?_)
    | ((go_at_call 43; ((with_reducible refine (hc.out _).mono ?_); rintro e w1 ⟨rfl, hB1⟩))))
  go_ret2
  exact ⟨rfl, ((Below.refl _ _).alloc (Nat.le_refl _) _).trans (hB1.mono (by simp))⟩
set_option maxRecDepth 100000 in
theorem btxI_ok (n : Int) (ms : List Int) (bs : List Bool) (hms : ms.length = 16) (hbs : bs.length = 16) (hb : Bytes ms) (hd : isB n ms bs = true) (T : ByteArray) (ht : ∀ w, Calls Try.prog 46 #[.agg (bcl n ms bs)] w fun e w' => e = .returned (.string T) ∧ Below w.heap.size w w') (w : World) :
    Calls Try.prog 22 #[.agg (bcl n ms bs)] w fun e w' => e = .returned (.tuple #[.string T, .int .i64 0]) ∧ Below w.heap.size w w' := by
  have hl := Lib.hid hms
  have hk := Lib.hid hbs
  have hc := Lib.hid (fun w => isBlI_any n ms bs hms hbs hb w)
  have ht' := Lib.hid ht
  rw [hd] at hc
  clear hms hbs hb hd ht
  go_enter Try.func22, Try.ntmps22
  go_wp2_with (first
    | (refine wpList_load_row rfl 38 _ rfl _ rfl 38 _ (0, 0) _ (hO1) Try.underlying38 rfl (rowB (b33 _ _ _ (hl.out) (hk.out))) ?_)
    | (refine wpList_load_row rfl 38 _ rfl _ rfl 38 _ (0, 0) _ (Own.new _ _ _) Try.underlying38 rfl (rowB (b33 _ _ _ (hl.out) (hk.out))) ?_)
    | ((go_at_call 20; ((with_reducible refine (hc.out _).mono ?_); rintro e w1 ⟨rfl, hB1⟩)); have hO1 : Own w1 w.heap.size (bcl n ms bs) 38 := (Own.new _ _ _).below hB1 (by simp))
    | ((go_at_call 46; ((with_reducible refine (ht'.out _).mono ?_); rintro e w2 ⟨rfl, hB2⟩))))
  go_ret2
  have b0 : Below w.heap.size w (w.alloc (.cells (bcl n ms bs) 38)) := (Below.refl _ _).alloc (Nat.le_refl _) _
  have b1 := b0.trans (hB1.mono b0.size)
  exact ⟨rfl, b1.trans (hB2.mono b1.size)⟩
set_option maxRecDepth 100000 in
theorem btxI_bad (n : Int) (ms : List Int) (bs : List Bool) (hms : ms.length = 16) (hbs : bs.length = 16) (hb : Bytes ms) (hd : isB n ms bs = false) (w : World) :
    Calls Try.prog 22 #[.agg (bcl n ms bs)] w fun e w' => e = .returned (.tuple #[.string ⟨#[]⟩, .int .i64 1]) ∧ Below w.heap.size w w' := by
  have hl := Lib.hid hms
  have hk := Lib.hid hbs
  have hc := Lib.hid (fun w => isBlI_any n ms bs hms hbs hb w)
  rw [hd] at hc
  clear hms hbs hb hd
  go_enter Try.func22, Try.ntmps22
  go_wp2_with (first
    | (refine wpList_load_row rfl 38 _ rfl _ rfl 38 _ (0, 0) _ (Own.new _ _ _) Try.underlying38 rfl (rowB (b33 _ _ _ (hl.out) (hk.out))) ?_)
    | ((go_at_call 20; ((with_reducible refine (hc.out _).mono ?_); rintro e w1 ⟨rfl, hB1⟩))))
  go_ret2
  exact ⟨rfl, ((Below.refl _ _).alloc (Nat.le_refl _) _).trans (hB1.mono (by simp))⟩
set_option maxRecDepth 100000 in
set_option maxHeartbeats 1000000 in
theorem BlobbedText_walk (n : Int) (ms : List Int) (bs : List Bool) (hms : ms.length = 16) (hbs : bs.length = 16) (w : World) (T : ByteArray) (c : Int)
    (hS : ∀ w, Calls Try.prog 21 #[.agg (bcl n ms bs)] w fun e w' => e = .returned (.tuple #[.string T, .int .i64 c]) ∧ Below w.heap.size w w')
    (hI : ∀ w, Calls Try.prog 22 #[.agg (bcl n ms bs)] w fun e w' => e = .returned (.tuple #[.string T, .int .i64 c]) ∧ Below w.heap.size w w') :
    Calls Try.prog 5 #[.agg (bcl n ms bs)] w fun e w' => e = .returned (.bool true) ∧ Below w.heap.size w w' := by
  have hS' := Lib.hid hS
  have hI' := Lib.hid hI
  have hl := Lib.hid hms
  have hk := Lib.hid hbs
  clear hS hI hms hbs
  go_enter Try.func5, Try.ntmps5
  go_wp2_with (first
    | (refine wpList_load_row rfl 35 _ rfl _ rfl 35 _ (0, 0) _ (Own.new _ _ _) Try.underlying35 rfl (rowLB (b33 _ _ _ (hl.out) (hk.out))) ?_)
    | (go_at_call 21; ((with_reducible refine (hS'.out _).mono ?_); rintro e w2 ⟨rfl, hB2⟩))
    | (go_at_call 22; ((with_reducible refine (hI'.out _).mono ?_); rintro e w4 ⟨rfl, hB4⟩))
    | (go_at_call 19; ((with_reducible refine (toBl_any n ms bs hl.out hk.out w2).mono ?_); rintro e w3 ⟨rfl, hB3⟩))
    | (go_at_call 19; ((with_reducible refine (toBl_any n ms bs hl.out hk.out _).mono ?_); rintro e w1 ⟨rfl, hB1⟩))
    | (refine wpList_load_row rfl 35 _ rfl _ rfl 35 _ (0, 0) _ (((Own.new _ _ _).below hB1 (by simp)).below hB2 (Nat.lt_of_lt_of_le (by simp) hB1.size)) Try.underlying35 rfl (rowLB (b33 _ _ _ (hl.out) (hk.out))) ?_))
  go_ret
  have b0 : Below w.heap.size w (w.alloc (.cells (bcl n ms bs) 35)) := (Below.refl _ _).alloc (Nat.le_refl _) _
  have b1 := b0.trans (hB1.mono b0.size)
  have b2 := b1.trans (hB2.mono b1.size)
  have b3 := b2.trans (hB3.mono b2.size)
  exact ⟨rfl, b3.trans (hB4.mono b3.size)⟩
theorem isB_isD {n : Int} {ms : List Int} {bs : List Bool} (h : isB n ms bs = true) : isD n ms = true := by
  cases hd : isD n ms with
  | true => rfl
  | false => rw [isB_d n ms bs hd] at h; cases h
theorem btx_law (n : Int) (ms : List Int) (bs : List Bool) (hms : ms.length = 16) (hb : Bytes ms) (hbs : bs.length = 16) (w : World) :
    Calls Try.prog 5 #[.agg (bcl n ms bs)] w fun e w' => e = .returned (.bool true) ∧ Below w.heap.size w w' := by
  cases hd : isB n ms bs with
  | true =>
    have hD := isB_isD hd
    have hn := net_of n ms hms hb hD
    refine BlobbedText_walk n ms bs hms hbs w (strOfNums (LB n ms bs)) 0 (btxS_ok n ms bs hms hbs hb hd _ (fun w => ?_)) (btxI_ok n ms bs hms hbs hb hd _ (fun w => tobI_any n ms bs hms hbs hb hD w))
    rw [← txS_LB hms hd hn]
    exact txtS_any n ms bs hms hbs hb hn w
  | false => exact BlobbedText_walk n ms bs hms hbs w ⟨#[]⟩ 1 (btxS_bad n ms bs hms hbs hb hd) (btxI_bad n ms bs hms hbs hb hd)
end Go.Proofs.Ytbegolbognkefaa
