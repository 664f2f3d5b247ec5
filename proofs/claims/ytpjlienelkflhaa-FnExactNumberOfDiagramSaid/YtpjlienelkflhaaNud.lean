/- NumberOfDiagram: the model's number is a text's place in the list. -/
import Derived.Test.YtpjlienelkflhaaDon
import Derived.Test.YtpjlienelkflhaaOnS
import Derived.Test.YtpjlienelkflhaaTextM
import Derived.Deep.CutRange
namespace Go.Proofs.Ytpjlienelkflhaa
open Go.RowKit Go.Lib
set_option linter.unusedVariables false
set_option linter.unusedSimpArgs false
theorem gen_wld {P : Program} {c : Code} {Q : Exit → Act → World → Prop} {a : Act} {W : World} (S : World → Prop) (h : S W) (k : ∀ x, S x → c.wp P Q a x) : c.wp P Q a W := k W h
/-- The text of a diagram is one of the list. -/
theorem text_mem (f : Nat) : ∀ (o : Nat) (t X : List UInt8), (∀ k, k < f → X[k]? = some 40 ∨ X[k]? = some 41) → X.length = f →
    (∀ k, k ≤ f → 0 ≤ (o : Int) + ((X.take k).map (fun x => stp (x.toNat : Nat))).sum) → (o : Int) + (X.map (fun x => stp (x.toNat : Nat))).sum = 0 → (t ++ X) ∈ dts f o t := by
  induction f with
  | zero =>
    intro o t X h1 h2 h3 h4
    rw [List.length_eq_zero_iff] at h2
    subst h2
    simp [dts]
  | succ f ih =>
    intro o t X h1 h2 h3 h4
    match X, h2 with
    | x :: X, h2 =>
      simp only [List.length_cons, Nat.add_right_cancel_iff] at h2
      have hx := h1 0 (by omega)
      have h1' : ∀ k, k < f → X[k]? = some 40 ∨ X[k]? = some 41 := fun k hk => by simpa using h1 (k + 1) (by omega)
      have h3' : ∀ k, k ≤ f → 0 ≤ (o : Int) + (stp (x.toNat : Nat) + ((X.take k).map (fun x => stp (x.toNat : Nat))).sum) := fun k hk => by
        have := h3 (k + 1) (by omega)
        simpa using this
      have h4' : (o : Int) + (stp (x.toNat : Nat) + (X.map (fun x => stp (x.toNat : Nat))).sum) = 0 := by simpa using h4
      have low : ∀ (l : List UInt8), -(l.length : Int) ≤ (l.map (fun x => stp (x.toNat : Nat))).sum := by
        intro l
        induction l with
        | nil => simp
        | cons y l ihl =>
          have : -1 ≤ stp (y.toNat : Nat) := by unfold stp; split <;> (try split) <;> omega
          simp only [List.map_cons, List.sum_cons, List.length_cons]
          omega
      have hl := low X
      rw [dts_step, List.mem_append]
      have e0 := h3' 0 (by omega)
      simp at e0
      simp only [List.getElem?_cons_zero, Option.some.injEq] at hx
      rcases hx with rfl | rfl
      · left
        have s1 : stp (((40 : UInt8).toNat : Nat) : Int) = 1 := by decide
        rw [s1] at h3' h4'
        rw [if_pos (by omega)]
        have := ih (o + 1) (t ++ [40]) X h1' h2 (fun k hk => by have := h3' k hk; omega) (by omega)
        simpa using this
      · right
        have s1 : stp (((41 : UInt8).toNat : Nat) : Int) = -1 := by decide
        rw [s1] at h3' h4' e0
        rw [if_pos (by omega)]
        have := ih (o - 1) (t ++ [41]) X h1' h2 (fun k hk => by have := h3' k hk; omega) (by omega)
        simpa using this
theorem cut_sum (X : List UInt8) (k : Nat) (hk : k ≤ X.length) : ((X.take k).map (fun x => stp (x.toNat : Nat))).sum = (cutP (LI X) k).2.2 := by
  induction k with
  | zero => rfl
  | succ k ih =>
    have hlt : k < X.length := by omega
    have e2 : (LI X).getD k 0 = ((X[k].toNat : Nat) : Int) := by
      unfold LI
      rw [List.getD_eq_getElem?_getD, List.getElem?_map, List.getElem?_eq_getElem hlt]; rfl
    rw [List.take_add_one, List.getElem?_eq_getElem hlt, List.map_append, List.sum_append, ih (by omega), cutP, e2]
    split
    · rename_i h; simpa using h
    · simp
theorem text_in (N : Nat) (ms : List Int) (hn : Net (N : Int) ms) (X : List UInt8) (hX : (textS N ms).data.toList = X) : X ∈ dts (2 * N) 0 [] ∧ X.length = 2 * N ∧ ∀ k, k < 2 * N → X[k]? = some 40 ∨ X[k]? = some 41 := by
  obtain ⟨h1, h8⟩ := hn.bd
  have hlen : X.length = 2 * N := by
    have := text_len (N : Int) ms (by omega)
    rw [hX] at this; omega
  have hLT : LI X = LT (N : Int) ms := by rw [← hX]; rfl
  have hlet : ∀ k, k < 2 * N → X[k]? = some 40 ∨ X[k]? = some 41 := by
    intro k hk
    have h := LT_get (N : Int) ms k (by omega)
    rw [← hLT] at h
    unfold LI at h
    rw [List.getD_eq_getElem?_getD, List.getElem?_map, List.getElem?_eq_getElem (by omega)] at h
    have h' : ((X[k].toNat : Nat) : Int) = if (k : Int) < qq N ms k then 40 else 41 := h
    rw [List.getElem?_eq_getElem (by omega)]
    split at h'
    · left; congr 1; apply UInt8.toNat_inj.1; have : (40 : UInt8).toNat = 40 := rfl; omega
    · right; congr 1; apply UInt8.toNat_inj.1; have : (41 : UInt8).toNat = 41 := rfl; omega
  refine ⟨?_, hlen, hlet⟩
  have hinv := fun k (hk : k ≤ 2 * N) => (cut_inv hn (LT N ms) (LT_lett N ms) k (by omega)).1
  have := text_mem (2 * N) 0 [] X hlet hlen (fun k hk => by
    rw [cut_sum X k (by omega), hLT, hinv k hk]; omega) (by
    have e := cut_sum X (2 * N) (by omega)
    rw [List.take_of_length_le (by omega)] at e
    have e2 := opens_end hn
    rw [show (2 * (N : Int)).toNat = 2 * N by omega] at e2
    rw [e, hLT, hinv _ (Nat.le_refl _), e2]; rfl)
  simpa using this
theorem dts_pre (f : Nat) : ∀ (o : Nat) (t X : List UInt8), X ∈ dts f o t → X.take t.length = t := by
  induction f with
  | zero => intro o t X h; simp [dts] at h; subst h; simp
  | succ f ih =>
    intro o t X h
    have key : ∀ c : UInt8, X.take (t ++ [c]).length = t ++ [c] → X.take t.length = t := fun c h => by
      have := congrArg (List.take t.length) h
      rw [List.take_take, List.take_left] at this
      rwa [Nat.min_eq_left (by simp)] at this
    rw [dts_step, List.mem_append] at h
    rcases h with h | h
    · split at h
      · exact key _ (ih _ _ _ h)
      · simp at h
    · split at h
      · exact key _ (ih _ _ _ h)
      · simp at h
theorem pre_get (t X : List UInt8) (c : UInt8) (h : X.take (t ++ [c]).length = t ++ [c]) : X[t.length]? = some c := by
  have e : (X.take (t ++ [c]).length)[t.length]? = some c := by rw [h]; simp
  rwa [List.getElem?_take_of_lt (by simp)] at e
/-- The letter says on which side of the list a text lies. -/
theorem side_open {f o r K : Nat} {t X : List UInt8} (h : f + 1 = 2 * r + o) (hX : (dts (f + 1) o t)[K]? = some X) (hc : X[t.length]? = some 40) : K < ahd f o r ∧ 0 < r ∧ (dts f (o + 1) (t ++ [40]))[K]? = some X := by
  by_cases hK : K < ahd f o r
  · exact ⟨hK, go_open h hX hK⟩
  · obtain ⟨_, h2⟩ := go_close h hX hK
    have := pre_get t X 41 (dts_pre _ _ _ _ (List.mem_of_getElem? h2))
    rw [hc] at this
    simp at this
theorem side_close {f o r K : Nat} {t X : List UInt8} (h : f + 1 = 2 * r + o) (hX : (dts (f + 1) o t)[K]? = some X) (hc : X[t.length]? = some 41) : ahd f o r ≤ K ∧ 0 < o ∧ (dts f (o - 1) (t ++ [41]))[K - ahd f o r]? = some X := by
  by_cases hK : K < ahd f o r
  · obtain ⟨_, h2⟩ := go_open h hX hK
    have := pre_get t X 40 (dts_pre _ _ _ _ (List.mem_of_getElem? h2))
    rw [hc] at this
    simp at this
  · exact ⟨by omega, go_close h hX hK⟩
theorem text_at (s : ByteArray) (X : List UInt8) (hs : s.data.toList = X) (k : Nat) (h : k < s.size) : X[k]? = some s[k] := by rw [← hs]; exact get_list s k h
set_option maxRecDepth 100000 in
set_option maxHeartbeats 2000000 in
theorem numS_ok (N K : Nat) (ms : List Int) (hms : ms.length = 16) (hb : Bytes ms) (hd : isD N ms = true) (hK : (dts (2 * N) 0 [])[K]? = some (textS N ms).data.toList) (w : World) :
    Calls Try.prog 16 #[.agg (dcells N ms)] w fun e w' => e = .returned (.tuple #[.int .i64 K, .int .i64 0]) ∧ Below w.heap.size w w' := by
  have hn := net_of N ms hms hb hd
  obtain ⟨h1, h8⟩ := hn.bd
  have hl := Lib.hid hms
  have hi := Lib.hid (fun w => l01Is_dec N ms hms hb w)
  rw [hd] at hi
  have ht := Lib.hid (fun w => textM_any N ms hms hb w h1 h8)
  obtain ⟨hmem, hXl, hlet⟩ := text_in N ms hn _ rfl
  obtain ⟨S, hS⟩ : ∃ S, textS N ms = S := ⟨_, rfl⟩
  rw [hS] at ht hK hmem hXl hlet
  have hSs : S.size = 2 * N := by rw [← size_list]; exact hXl
  obtain ⟨X, hX⟩ : ∃ X, S.data.toList = X := ⟨_, rfl⟩
  rw [hX] at hK hmem hXl hlet
  have hXs := Lib.hid hX
  have hle := Lib.hid hlet
  have hK' := Lib.hid hK
  have hKb : K < 1099511627776 := by
    have a := (List.getElem?_eq_some_iff.1 hK).1
    rw [dts_wy] at a
    have b := wy_bd (2 * N) 0
    have c : 2 ^ (2 * N) ≤ 2 ^ 16 := Nat.pow_le_pow_right (by omega) (by omega)
    omega
  obtain ⟨n, hnN⟩ : ∃ n : Int, (N : Int) = n := ⟨_, rfl⟩
  rw [hnN] at hi ht ⊢
  have hNn := Lib.hid hnN
  clear hms hb hd hn hS hX hmem hlet hK
  go_enter Try.func16, Try.ntmps16
  go_upto_region 3 with (first
    | (refine wpList_load_row rfl 30 _ rfl _ rfl 30 _ (0, 0) _ (Own.new w _ _) Try.underlying30 rfl (row26 (d17 _ _ (hl.out))) ?_)
    | (go_at_call 33; ((with_reducible refine (hi.out _).mono ?_); rintro e w1 ⟨rfl, hB1⟩)))
  refine gen_wld (fun x => Own x w.heap.size (dcells n ms) 30 ∧ Below w.heap.size w x) ⟨(Own.new w _ _).below hB1 (by simp), ((Below.refl _ w).alloc (Nat.le_refl _) _).trans (hB1.mono (by simp))⟩ ?_
  clear hB1
  rintro x ⟨hO, hB⟩
  refine wp_region_st (fun x => Own x w.heap.size (dcells n ms) 30) [(true, 0), (true, 2), (true, 3), (false, 1), (true, 4), (true, 5)] 6 (by kernel_rfl) (by kernel_rfl) (hO.drewN 1) ?_
  have hOd : Own { x with drawn := x.drawn + 1 } w.heap.size (dcells n ms) 30 := hO
  have hBd : Below w.heap.size w { x with drawn := x.drawn + 1 } := hB.drew
  clear hO hB
  generalize ({ x with drawn := x.drawn + 1 } : World) = w2 at *
  simp only [List.map_cons, List.map_nil, opS'_mk, opN_zero, opN_succ, List.drop_succ_cons, List.drop_zero]
  (apply wpSt_read; · (intro wd hS K hK; rw [if_pos (by rfl)]; refine still_load_row 30 (.tmp 1) rfl w.heap.size rfl 30 (dcells n ms) _ hS Try.underlying30 rfl (row26 (d17 _ _ hl.out)) ?_; exact hK))
  (apply wpSt_read; · (intro wd hS K hK; clear hS; go_simp; exact hK))
  (apply wpSt_read; · (intro wd hS K hK; have d0 := hS.cell 0; rw [dcells_zero] at d0; clear hS; go_simp; exact hK))
  refine wpSt_keep (fun K2 hK2 => ?_)
  go_wp2_with (first
    | (go_at_call 34; ((with_reducible refine (ht.out w2).mono ?_); rintro e w3 ⟨rfl, hB3⟩)))
  refine hK2 _ _ (hOd.below hB3 hOd.lt) rfl ?_
  clear hK2 K2
  (apply wpSt_read; · (intro wd hS K hK; clear hS; go_simp; exact hK))
  (apply wpSt_read; · (intro wd hS K hK; clear hS; go_simp; exact hK))
  refine wpSt_nil ?_
  have b3 : Below w.heap.size w w3 := hBd.trans (hB3.mono hBd.size)
  clear hOd hBd hB3
  have hNn' := hNn.out
  go_wp2
  go_loopw [5, 6, 7, 8] (fun o' r' c' k' wr => ∃ k o r C D : Nat, k ≤ 2 * N ∧ o' = .int .i64 o ∧ r' = .int .i64 r ∧ c' = .int .i64 C ∧ k' = .int .i64 k ∧ 2 * r + o + k = 2 * N ∧ o + r ≤ N ∧ C + D = K ∧ Hid ((dts (2 * r + o) o (X.take k))[D]? = some X) ∧ Below w.heap.size w wr) (fun _ _ _ k _ => (2 * N - intOf k).toNat)
  case atStart => exact ⟨0, 0, N, 0, K, by omega, rfl, by rw [← hNn'], rfl, rfl, by omega, by omega, by omega, hK', b3⟩
  case round =>
    clear hK' b3
    obtain ⟨k, o, r, C, D, hk, rfl, rfl, rfl, rfl, hf, hor, hCD, hat, hB⟩ := hrel
    by_cases hlt : k < 2 * N
    · have hks : k < S.size := by omega
      have ha := text_at S X hXs.out k hks
      have htl : (X.take k).length = k := by rw [List.length_take]; omega
      have htk : X.take (k + 1) = X.take k ++ [S[k]] := by rw [List.take_add_one, ha]; rfl
      have hP := hat.out
      obtain ⟨f, hff⟩ : ∃ f, 2 * r + o = f + 1 := ⟨2 * r + o - 1, by omega⟩
      rw [hff] at hP
      have kI : (k : Int) < ((S.size : Nat) : Int) := by omega
      rcases hle.out k hlt with c | c
      · have e40 : S[k] = 40 := by rw [ha] at c; exact Option.some.inj c
        obtain ⟨_, hr, hQ⟩ := side_open (f := f) (o := o) (r := r) (by omega) hP (by rw [htl]; exact c)
        rw [e40] at htk
        rw [← htk] at hQ
        obtain ⟨r', rfl⟩ : ∃ r', r = r' + 1 := ⟨r - 1, by omega⟩
        have hQ' := Lib.hid (show (dts (2 * r' + (o + 1)) (o + 1) (X.take (k + 1)))[D]? = some X by rw [show 2 * r' + (o + 1) = f by omega]; exact hQ)
        have b40 : ((S[k].toNat : Int) == 40) = true := by rw [e40]; rfl
        clear hP hat hQ htk ha c e40 hff
        go_wp2
        go_roundw
        case rel => exact ⟨k + 1, o + 1, r', C, D, by omega, by go_num, by go_num, rfl, by go_num, by omega, by omega, hCD, hQ', hB⟩
        case measure => simp [intOf]; omega
      · have e41 : S[k] = 41 := by rw [ha] at c; exact Option.some.inj c
        obtain ⟨hD, ho, hQ⟩ := side_close (f := f) (o := o) (r := r) (by omega) hP (by rw [htl]; exact c)
        rw [e41] at htk
        rw [← htk] at hQ
        obtain ⟨o', rfl⟩ : ∃ o', o = o' + 1 := ⟨o - 1, by omega⟩
        have b40 : ((S[k].toNat : Int) == 40) = false := by rw [e41]; rfl
        cases r with
        | zero =>
          have ez : ahd f (o' + 1) 0 = 0 := by unfold ahd; rw [if_neg (by omega)]
          rw [ez] at hQ hD
          have hQ' := Lib.hid (show (dts (2 * 0 + o') o' (X.take (k + 1)))[D]? = some X by rw [show 2 * 0 + o' = f by omega]; exact hQ)
          clear hP hat hQ htk ha c e41 hff
          go_wp2
          go_roundw
          case rel => exact ⟨k + 1, o', 0, C, D, by omega, by go_num, rfl, rfl, by go_num, by omega, by omega, hCD, hQ', hB⟩
          case measure => simp [intOf]; omega
        | succ r' =>
          have ez : ahd f (o' + 1) (r' + 1) = wy f (o' + 1 + 1) := by unfold ahd; rw [if_pos (by omega)]
          have hwy := Lib.hid (show ∀ w, Calls Try.prog 29 #[.int .i64 ((o' : Int) + 1 + 1), .int .i64 (r' : Int)] w fun e w' => e = .returned (.int .i64 (wy f (o' + 1 + 1) : Nat)) ∧ w' = w from fun w => by have := waysS_any f (o' + 1 + 1) r' w (by omega) (by omega); simpa using this)
          rw [ez] at hQ hD
          obtain ⟨A, hA⟩ : ∃ A, wy f (o' + 1 + 1) = A := ⟨_, rfl⟩
          rw [hA] at hwy hQ hD
          have hQ' := Lib.hid (show (dts (2 * (r' + 1) + o') o' (X.take (k + 1)))[D - A]? = some X by rw [show 2 * (r' + 1) + o' = f by omega]; exact hQ)
          clear hP hat hQ htk ha c e41 hff ez hA
          go_wp2_with (first
            | (go_at_call 29; ((with_reducible refine (hwy.out _).mono ?_); rintro e w1 ⟨rfl, rfl⟩)))
          go_roundw
          case rel => exact ⟨k + 1, o', r' + 1, C + A, D - A, by omega, by go_num, by go_num, by go_num, by go_num, by omega, by omega, by omega, hQ', hB⟩
          case measure => simp [intOf]; omega
    · have e : k = 2 * N := by omega
      subst e
      obtain rfl : r = 0 := by omega
      obtain rfl : o = 0 := by omega
      have hD : D = 0 := by
        have h0 : ([X.take (2 * N)] : List (List UInt8))[D]? = some X := hat.out
        cases D with
        | zero => rfl
        | succ D => simp at h0
      obtain rfl : C = K := by omega
      clear hat
      go_wp2
      go_ret2
      exact ⟨rfl, hB⟩
theorem numS_bad (n : Int) (ms : List Int) (hms : ms.length = 16) (hb : Bytes ms) (hd : isD n ms = false) (w : World) :
    Calls Try.prog 16 #[.agg (dcells n ms)] w fun e w' => e = .returned (.tuple #[.int .i64 0, .int .i64 1]) ∧ Below w.heap.size w w' := by
  have hl := Lib.hid hms
  have hi := Lib.hid (fun w => l01Is_dec n ms hms hb w)
  rw [hd] at hi
  clear hms hb hd
  go_enter Try.func16, Try.ntmps16
  go_wp2_with (first
    | (refine wpList_load_row rfl 30 _ rfl _ rfl 30 _ (0, 0) _ (Own.new w _ _) Try.underlying30 rfl (row26 (d17 _ _ (hl.out))) ?_)
    | (go_at_call 33; ((with_reducible refine (hi.out _).mono ?_); rintro e w1 ⟨rfl, hB1⟩)))
  go_ret2
  exact ⟨rfl, ((Below.refl _ w).alloc (Nat.le_refl _) _).trans (hB1.mono (by simp))⟩
end Go.Proofs.Ytpjlienelkflhaa
