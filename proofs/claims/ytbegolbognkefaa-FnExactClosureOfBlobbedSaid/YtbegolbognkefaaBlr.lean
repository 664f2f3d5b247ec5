/- Plain mathematics: the program's letters of a diagram with blobs, and what they are read as. -/
import Derived.Test.YtbegolbognkefaaBlq
namespace Go.Proofs.Ytbegolbognkefaa
open Go.RowKit
set_option linter.unusedVariables false
set_option linter.unusedSimpArgs false
theorem lbl_W {n : Int} {ms : List Int} (h : Net n ms) (bs : List Bool) (j : Nat) (hj : j ≤ (starts n ms (2 * n).toNat).length) :
    (∀ s ∈ (starts n ms (2 * n).toNat).take j, (lbl n bs (LT n ms) ((starts n ms (2 * n).toNat).map (prt n ms)) j).getD s 0 = oc (bs.getD (pl n s).toNat false) ∧ (lbl n bs (LT n ms) ((starts n ms (2 * n).toNat).map (prt n ms)) j).getD (qq n ms s).toNat 0 = cc (bs.getD (pl n s).toNat false)) ∧
    (∀ k : Nat, (∀ s ∈ (starts n ms (2 * n).toNat).take j, k ≠ s ∧ (k : Int) ≠ qq n ms s) → (lbl n bs (LT n ms) ((starts n ms (2 * n).toNat).map (prt n ms)) j).getD k 0 = (LT n ms).getD k 0) := by
  have hn := h.bd
  induction j with
  | zero => exact ⟨fun s hs => by simp at hs, fun k _ => rfl⟩
  | succ j ih =>
    obtain ⟨v1, v2⟩ := ih (by omega)
    obtain ⟨s, hs⟩ : ∃ s, (starts n ms (2 * n).toNat)[j]? = some s := ⟨_, List.getElem?_eq_getElem (by omega)⟩
    have hsm := List.mem_of_getElem? hs
    have hsm' := mem_starts.1 hsm
    have hnd := starts_nodup n ms (2 * n).toNat
    have htk : (starts n ms (2 * n).toNat).take (j + 1) = (starts n ms (2 * n).toNat).take j ++ [s] := by rw [List.take_add_one, hs]; rfl
    have hsn : s ∉ (starts n ms (2 * n).toNat).take j := by
      have : ((starts n ms (2 * n).toNat).take (j + 1)).Nodup := hnd.sublist (List.take_sublist _ _)
      rw [htk, List.nodup_append] at this
      intro hm
      exact this.2.2 s hm s (by simp) rfl
    have hP : ((starts n ms (2 * n).toNat).map (prt n ms))[j]? = some (s, (qq n ms s).toNat + 1) := by rw [List.getElem?_map, hs]; rfl
    have su := start_up h s (by omega) hsm'.2
    have q0 := h.lt s (by omega) (by omega)
    have hap : ∀ t ∈ (starts n ms (2 * n).toNat).take j, t ≠ s ∧ (s : Int) ≠ qq n ms t ∧ (t : Int) ≠ qq n ms s ∧ qq n ms t ≠ qq n ms s := fun t ht => by
      have htm := List.mem_of_mem_take ht
      have hts : t ≠ s := fun e => hsn (e ▸ ht)
      exact ⟨hts, (starts_apart h hsm htm).1, (starts_apart h htm hsm).1, (starts_apart h htm hsm).2 hts⟩
    have hq2 : ∀ t ∈ (starts n ms (2 * n).toNat).take j, 0 ≤ qq n ms t := fun t ht => by
      have := mem_starts.1 (List.mem_of_mem_take ht)
      exact (h.lt t (by omega) (by omega)).1
    have hl := lbl_len n bs (LT n ms) ((starts n ms (2 * n).toNat).map (prt n ms)) j
    rw [LT_len n ms (by omega)] at hl
    rw [lbl_step n bs (LT n ms) _ j s _ hP _ rfl, Nat.add_sub_cancel]
    generalize lbl n bs (LT n ms) ((starts n ms (2 * n).toNat).map (prt n ms)) j = M at *
    have g : ∀ k x y, ((M.set s x).set (qq n ms s).toNat y).getD k 0 = if k = (qq n ms s).toNat then y else if k = s then x else M.getD k 0 := fun k x y => by
      rw [getD_set _ _ _ _ _ (by rw [List.length_set, hl]; omega), getD_set _ _ _ _ _ (by rw [hl]; omega)]
    refine ⟨fun t ht => ?_, fun k hk => ?_⟩
    · rw [htk, List.mem_append, List.mem_singleton] at ht
      rw [g, g]
      rcases ht with ht | rfl
      · have a := hap t ht
        have a2 := hq2 t ht
        have := v1 t ht
        rw [if_neg (by omega), if_neg a.1, if_neg (by omega), if_neg (by omega)]
        exact this
      · rw [if_neg (by omega), if_pos rfl, if_pos rfl]; exact ⟨rfl, rfl⟩
    · have a := hk s (by rw [htk]; simp)
      rw [g, if_neg (by omega), if_neg a.1]
      exact v2 k (fun t ht => hk t (by rw [htk]; simp [ht]))
/-- The letters, place by place. -/
theorem LB_W {n : Int} {ms : List Int} (h : Net n ms) (bs : List Bool) :
    (∀ s ∈ starts n ms (2 * n).toNat, (LB n ms bs).getD s 0 = oc (bs.getD (pl n s).toNat false) ∧ (LB n ms bs).getD (qq n ms s).toNat 0 = cc (bs.getD (pl n s).toNat false)) ∧
    (∀ k : Nat, (∀ s ∈ starts n ms (2 * n).toNat, k ≠ s ∧ (k : Int) ≠ qq n ms s) → (LB n ms bs).getD k 0 = (LT n ms).getD k 0) := by
  have hW := lbl_W h bs (starts n ms (2 * n).toNat).length (Nat.le_refl _)
  rw [List.take_length] at hW
  have e : LB n ms bs = lbl n bs (LT n ms) ((starts n ms (2 * n).toNat).map (prt n ms)) (starts n ms (2 * n).toNat).length := by
    unfold LB
    rw [cut_LT h, List.length_map]
  rw [e]; exact hW
theorem LB_bytes (n : Int) (ms : List Int) (bs : List Bool) : Bytes (LB n ms bs) := by
  unfold LB
  generalize (cutP (LT n ms) (2 * n).toNat).1.length = j
  induction j with
  | zero => exact LI_bytes _
  | succ j ih =>
    rw [lbl]
    intro x hx
    rcases List.mem_or_eq_of_mem_set hx with hx | rfl
    · rcases List.mem_or_eq_of_mem_set hx with hx | rfl
      · exact ih x hx
      · unfold oc; split <;> omega
    · unfold cc; split <;> omega
theorem u8s_LI (l : List UInt8) : u8s (LI l) = l := by
  unfold u8s LI
  rw [List.map_map]
  conv => rhs; rw [← List.map_id l]
  apply List.map_congr_left
  intro c _
  simp
theorem starts_ends {n : Int} {ms : List Int} (h : Net n ms) (s : Nat) (hs : s ∈ starts n ms (2 * n).toNat) : (s : Int) < 2 * n ∧ (s : Int) < qq n ms s ∧ qq n ms s < 2 * n ∧ qq n ms (qq n ms s) = s ∧ opens n ms s = [] := by
  have hn := h.bd
  have h' := mem_starts.1 hs
  have q0 := h.lt s (by omega) (by omega)
  exact ⟨by omega, start_up h s (by omega) h'.2, q0.2.1, h.inv s (by omega) (by omega), h'.2⟩
theorem LB_plain {n : Int} {ms : List Int} (h : Net n ms) (bs : List Bool) : plainL (LB n ms bs) = LT n ms := by
  have hn := h.bd
  obtain ⟨w1, w2⟩ := LB_W h bs
  refine list_ext _ _ 0 (by rw [plain_len, LB_len n ms bs (by omega), LT_len n ms (by omega)]) (fun k hk => ?_)
  rw [plain_len] at hk
  rw [plain_get _ k hk]
  rw [LB_len n ms bs (by omega)] at hk
  by_cases hc : ∃ s ∈ starts n ms (2 * n).toNat, k = s ∨ (k : Int) = qq n ms s
  · obtain ⟨s, hs, e⟩ := hc
    obtain ⟨e1, e2, e3, e4, e5⟩ := starts_ends h s hs
    obtain ⟨x1, x2⟩ := w1 s hs
    rcases e with rfl | e
    · rw [x1, LT_get n ms k e1, if_pos e2]
      unfold oc plainC
      cases bs.getD (pl n (k : Int)).toNat false <;> rfl
    · have : k = (qq n ms s).toNat := by omega
      rw [this, x2, LT_get n ms _ (by omega), show (((qq n ms s).toNat : Nat) : Int) = qq n ms s by omega, e4, if_neg (by omega)]
      unfold cc plainC
      cases bs.getD (pl n (s : Int)).toNat false <;> rfl
  · rw [w2 k (fun s hs => ⟨fun e => hc ⟨s, hs, .inl e⟩, fun e => hc ⟨s, hs, .inr e⟩⟩), LT_get n ms k (by omega)]
    split <;> rfl
/-- The marks of these letters: blobs at both ends of the lines whose lesser ends have some. -/
theorem LB_marks {n : Int} {ms : List Int} (h : Net n ms) (bs : List Bool) (i : Nat) (hi : i < 16) :
    (mkK n (LB n ms bs) (LB n ms bs).length).getD i false = true ↔ ∃ s ∈ starts n ms (2 * n).toNat, bs.getD (pl n s).toNat false = true ∧ (i = (pl n s).toNat ∨ i = (pl n (qq n ms s)).toNat) := by
  have hn := h.bd
  obtain ⟨w1, w2⟩ := LB_W h bs
  rw [mkK_get _ _ _ _ hi, LB_len n ms bs (by omega)]
  constructor
  · rintro ⟨t, ht, hc, e⟩
    by_cases hx : ∃ s ∈ starts n ms (2 * n).toNat, t = s ∨ (t : Int) = qq n ms s
    · obtain ⟨s, hs, e'⟩ := hx
      obtain ⟨e1, e2, e3, e4, e5⟩ := starts_ends h s hs
      obtain ⟨x1, x2⟩ := w1 s hs
      refine ⟨s, hs, ?_, ?_⟩
      · rcases e' with rfl | e'
        · rw [x1] at hc
          cases hb : bs.getD (pl n (t : Int)).toNat false with
          | true => rfl
          | false => rw [hb] at hc; revert hc; decide
        · have : t = (qq n ms s).toNat := by omega
          rw [this, x2] at hc
          cases hb : bs.getD (pl n (s : Int)).toNat false with
          | true => rfl
          | false => rw [hb] at hc; revert hc; decide
      · rcases e' with e' | e'
        · left; rw [e, e']
        · right; rw [e, e']
    · rw [w2 t (fun s hs => ⟨fun e => hx ⟨s, hs, .inl e⟩, fun e => hx ⟨s, hs, .inr e⟩⟩), LT_get n ms t (by omega)] at hc
      exfalso
      revert hc
      split <;> decide
  · rintro ⟨s, hs, hb, e⟩
    obtain ⟨e1, e2, e3, e4, e5⟩ := starts_ends h s hs
    obtain ⟨x1, x2⟩ := w1 s hs
    rcases e with e | e
    · exact ⟨s, by omega, .inl (by rw [x1, hb]; rfl), e⟩
    · exact ⟨(qq n ms s).toNat, by omega, .inr (by rw [x2, hb]; rfl), by rw [show (((qq n ms s).toNat : Nat) : Int) = qq n ms s by omega]; exact e⟩
/-- The blobs that the program's text tells. -/
def nb (n : Int) (ms : List Int) (bs : List Bool) : List Bool := mkK n (LB n ms bs) (LB n ms bs).length
theorem nb_len (n : Int) (ms : List Int) (bs : List Bool) : (nb n ms bs).length = 16 := mkK_len _ _ _
theorem open_at {n : Int} {ms : List Int} (h : Net n ms) (i : Nat) (hi : i < 16) : (opB n ms (2 * n).toNat).getD i false = true ↔ ∃ s ∈ starts n ms (2 * n).toNat, i = (pl n s).toNat ∨ i = (pl n (qq n ms s)).toNat := by
  have hn := h.bd
  rw [opB_get _ _ _ _ hi]
  constructor
  · rintro ⟨s, hs, e⟩
    obtain ⟨e1, _⟩ := starts_ends h s hs
    rw [h.mt s (by omega) e1] at e
    exact ⟨s, hs, e⟩
  · rintro ⟨s, hs, e⟩
    obtain ⟨e1, _⟩ := starts_ends h s hs
    rw [← h.mt s (by omega) e1] at e
    exact ⟨s, hs, e⟩
/-- They are always blobs. -/
theorem nb_isB {n : Int} {ms : List Int} (hd : isD n ms = true) (h : Net n ms) (bs : List Bool) : isB n ms (nb n ms bs) = true := by
  have hn := h.bd
  refine isB_yes n ms _ hd (fun i hi => ?_)
  unfold okB
  cases hi2 : (nb n ms bs).getD i false with
  | false => rfl
  | true =>
    obtain ⟨s, hs, hb, e⟩ := (LB_marks h bs i hi).1 hi2
    obtain ⟨e1, e2, e3, e4, e5⟩ := starts_ends h s hs
    have ps := pl_bd n s hn.2 (by omega) (by omega)
    have pq := pl_bd n (qq n ms s) hn.2 (by omega) (by omega)
    have b1 : decide ((i : Int) < 2 * n) = true := by rw [decide_eq_true_eq]; omega
    have b2 : (opB n ms (2 * n).toNat).getD i false = true := (open_at h i hi).2 ⟨s, hs, e⟩
    have b3 : (nb n ms bs).getD (mate ms i).toNat false = true := by
      rcases e with e | e
      · rw [show (i : Int) = pl n s by omega, h.mt s (by omega) e1]
        exact (LB_marks h bs _ (by omega)).2 ⟨s, hs, hb, .inr rfl⟩
      · rw [show (i : Int) = pl n (qq n ms s) by omega, h.mt _ (by omega) e3, e4]
        exact (LB_marks h bs _ (by omega)).2 ⟨s, hs, hb, .inl rfl⟩
    rw [b1, b2, b3]; rfl
/-- They are the blobs that there are, exactly if these are some. -/
theorem nb_iff {n : Int} {ms : List Int} (hd : isD n ms = true) (h : Net n ms) (bs : List Bool) (hbs : bs.length = 16) : nb n ms bs = bs ↔ isB n ms bs = true := by
  have hn := h.bd
  constructor
  · intro e
    have := nb_isB hd h bs
    rwa [e] at this
  · intro hB
    have hok : ∀ i, i < 16 → okB n ms bs i = true := fun i hi => by
      unfold isB at hB
      rw [Bool.and_eq_true, List.all_eq_true] at hB
      exact hB.2 i (by simpa using hi)
    refine list_ext _ _ false (by rw [nb_len, hbs]) (fun i hi => ?_)
    rw [nb_len] at hi
    rw [Bool.eq_iff_iff]
    refine (LB_marks h bs i hi).trans ?_
    constructor
    · rintro ⟨s, hs, hb, e⟩
      obtain ⟨e1, e2, e3, e4, e5⟩ := starts_ends h s hs
      have ps := pl_bd n s hn.2 (by omega) (by omega)
      rcases e with e | e
      · rw [e]; exact hb
      · have o := hok (pl n (s : Int)).toNat (by omega)
        unfold okB at o
        rw [hb] at o
        simp only [Bool.not_true, Bool.false_or, Bool.and_eq_true] at o
        have o3 := o.2
        rw [show (((pl n (s : Int)).toNat : Nat) : Int) = pl n s by omega, h.mt s (by omega) e1] at o3
        rw [e]; exact o3
    · intro hb
      have o := hok i hi
      unfold okB at o
      rw [hb] at o
      simp only [Bool.not_true, Bool.false_or, Bool.and_eq_true, decide_eq_true_eq] at o
      obtain ⟨⟨o1, o2⟩, o3⟩ := o
      obtain ⟨s, hs, e⟩ := (open_at h i hi).1 o2
      obtain ⟨e1, e2, e3, e4, e5⟩ := starts_ends h s hs
      have ps := pl_bd n s hn.2 (by omega) (by omega)
      have pq := pl_bd n (qq n ms s) hn.2 (by omega) (by omega)
      refine ⟨s, hs, ?_, e⟩
      rcases e with e | e
      · rw [← e]; exact hb
      · rw [show (i : Int) = pl n (qq n ms s) by omega, h.mt _ (by omega) e3, e4] at o3
        exact o3
/-- What the program's text of a diagram with blobs is read as. -/
theorem bot_LB {n : Int} {ms : List Int} (hms : ms.length = 16) (hd : isD n ms = true) (h : Net n ms) (bs : List Bool) : botP (LB n ms bs) = some (n, ms, nb n ms bs) := by
  have hp : parse (u8s (plainL (LB n ms bs))) = some (n, ms) := by
    rw [LB_plain h bs]
    unfold LT
    rw [u8s_LI]
    exact parse_text hms h
  rw [bot_G2 (LB n ms bs) (LB_bytes n ms bs) n ms hp]
  have hi := nb_isB hd h bs
  unfold nb at hi
  rw [if_pos hi]
  rfl
theorem LB_u8 (n : Int) (ms : List Int) (bs : List Bool) : LI (strOfNums (LB n ms bs)).data.toList = LB n ms bs := by
  rw [strOfNums_data]
  unfold LI
  rw [List.map_map]
  conv => rhs; rw [← List.map_id (LB n ms bs)]
  apply List.map_congr_left
  intro x hx
  have hb := LB_bytes n ms bs x hx
  show ((UInt8.ofNat x.toNat).toNat : Int) = x
  rw [UInt8.toNat_ofNat', Nat.mod_eq_of_lt (by omega)]
  omega
end Go.Proofs.Ytbegolbognkefaa
