/- Plain mathematics: what the program reads a text with blobs as, in terms of the text without blobs. -/
import Derived.Test.YtbegolbognkefaaBlp
import Derived.Test.YtbegolbognkefaaBot
namespace Go.Proofs.Ytbegolbognkefaa
open Go.RowKit
set_option linter.unusedVariables false
set_option linter.unusedSimpArgs false
def plainC (c : Int) : Int := if c = 91 then 40 else if c = 93 then 41 else c
def plainL (L : List Int) : List Int := L.map plainC
/-- The model's marks of the first k places. -/
def mkK (n : Int) (L : List Int) : Nat → List Bool
  | 0 => zbs
  | k + 1 => if L.getD k 0 = 91 ∨ L.getD k 0 = 93 then (mkK n L k).set (pl n k).toNat true else mkK n L k
theorem mkK_len (n : Int) (L : List Int) (k : Nat) : (mkK n L k).length = 16 := by
  induction k with
  | zero => rfl
  | succ k ih => rw [mkK]; split <;> simp [ih]
theorem zbs_get (i : Nat) : zbs.getD i false = false := by
  unfold zbs
  rw [List.getD_eq_getElem?_getD, List.getElem?_replicate]
  split <;> rfl
theorem mkK_get (n : Int) (L : List Int) (k i : Nat) (hi : i < 16) : (mkK n L k).getD i false = true ↔ ∃ t, t < k ∧ (L.getD t 0 = 91 ∨ L.getD t 0 = 93) ∧ i = (pl n (t : Int)).toNat := by
  induction k with
  | zero => rw [mkK, zbs_get]; simp
  | succ k ih =>
    rw [mkK]
    split
    · rename_i hc
      rw [set_true _ _ _ (by rw [mkK_len]; exact hi), ih]
      constructor
      · rintro (h | ⟨t, h, h'⟩)
        · exact ⟨k, by omega, hc, h⟩
        · exact ⟨t, by omega, h'⟩
      · rintro ⟨t, h, h'⟩
        by_cases e : t = k
        · subst e; exact .inl h'.2
        · exact .inr ⟨t, by omega, h'⟩
    · rename_i hc
      rw [ih]
      constructor
      · rintro ⟨t, h, h'⟩; exact ⟨t, by omega, h'⟩
      · rintro ⟨t, h, h'⟩
        by_cases e : t = k
        · subst e; exact (hc h'.1).elim
        · exact ⟨t, by omega, h'⟩
theorem bsK_get (n : Int) (ms b : List Int) (j i : Nat) (hi : i < 16) (hj : j ≤ b.length) : (bsK n ms b j).getD i false = true ↔ ∃ x ∈ b.take j, i = (pl n x).toNat ∨ i = (mate ms (pl n x)).toNat := by
  induction j with
  | zero => rw [bsK, zbs_get]; simp
  | succ j ih =>
    rw [bsK, wbl, set_true _ _ _ (by rw [List.length_set, bsK_len]; exact hi), set_true _ _ _ (by rw [bsK_len]; exact hi), ih (by omega)]
    have e : b.take (j + 1) = b.take j ++ [b.getD j 0] := by
      rw [List.take_add_one, List.getElem?_eq_getElem (by omega), List.getD_eq_getElem?_getD, List.getElem?_eq_getElem (by omega)]
      rfl
    rw [e]
    constructor
    · rintro (h | h | ⟨x, h, h'⟩)
      · exact ⟨_, by simp, .inr h⟩
      · exact ⟨_, by simp, .inl h⟩
      · exact ⟨x, by simp [h], h'⟩
    · rintro ⟨x, h, h'⟩
      rw [List.mem_append, List.mem_singleton] at h
      rcases h with h | rfl
      · exact .inr (.inr ⟨x, h, h'⟩)
      · rcases h' with h' | h'
        · exact .inr (.inl h')
        · exact .inl h'
theorem u8s_len (M : List Int) : (u8s M).length = M.length := by simp [u8s]
theorem u8s_get (M : List Int) (k : Nat) (h : k < M.length) : (u8s M)[k]? = some (UInt8.ofNat (M.getD k 0).toNat) := by
  unfold u8s
  rw [List.getElem?_map, List.getElem?_eq_getElem h, List.getD_eq_getElem?_getD, List.getElem?_eq_getElem h]
  rfl
theorem ofNat_eq (x : Int) (h0 : 0 ≤ x) (h1 : x ≤ 255) (c : UInt8) (h : UInt8.ofNat x.toNat = c) : x = c.toNat := by
  have := congrArg UInt8.toNat h
  rw [UInt8.toNat_ofNat'] at this
  have h2 : x.toNat % 256 = x.toNat := Nat.mod_eq_of_lt (by omega)
  rw [h2] at this
  omega
/-- A list of letters that is read as a diagram has its brackets. -/
theorem read_get {M : List Int} (hb : Bytes M) {n : Int} {ms : List Int} (h : parse (u8s M) = some (n, ms)) (k : Nat) (hk : k < M.length) : (M.length : Int) = 2 * n ∧ M.getD k 0 = if (k : Int) < qq n ms k then 40 else 41 := by
  have h1 := (parse_pst _ _ _ h).2.1
  rw [u8s_len] at h1
  have h2 := parse_get _ _ _ h k (by omega)
  rw [u8s_get M k hk] at h2
  have hg := hb.get k
  refine ⟨h1, ?_⟩
  have h3 := Option.some.inj h2
  have := ofNat_eq _ hg.1 hg.2 _ h3
  rw [this]
  split <;> rfl
theorem unb_bytes (L : List Int) (P : List (Nat × Nat)) (hb : Bytes L) (j : Nat) : Bytes (unb L P j).1 := by
  induction j with
  | zero => exact hb
  | succ j ih =>
    rw [unb]
    split
    · intro x hx
      rcases List.mem_or_eq_of_mem_set hx with hx | rfl
      · rcases List.mem_or_eq_of_mem_set hx with hx | rfl
        · exact ih x hx
        · omega
      · omega
    · exact ih
theorem getD_set {α : Type} (l : List α) (j k : Nat) (v d : α) (hj : j < l.length) : (l.set j v).getD k d = if k = j then v else l.getD k d := by
  rw [List.getD_eq_getElem?_getD, List.getD_eq_getElem?_getD, List.getElem?_set]
  by_cases e : j = k
  · subst e; simp [hj]
  · rw [if_neg e, if_neg (fun h => e h.symm)]
/-- What letters can become. -/
theorem unb_or (L : List Int) (N : Nat) (hN : L.length = N) (j : Nat) (hj : j ≤ (cutP L N).1.length) (k : Nat) (hk : k < N) :
    (unb L (cutP L N).1 j).1.getD k 0 = L.getD k 0 ∨ (L.getD k 0 = 91 ∧ (unb L (cutP L N).1 j).1.getD k 0 = 40) ∨ (L.getD k 0 = 93 ∧ (unb L (cutP L N).1 j).1.getD k 0 = 41) := by
  induction j generalizing k with
  | zero => exact .inl rfl
  | succ j ih =>
    obtain ⟨f, e, hPj, hfe, heN, _⟩ := cut_part L N j (by omega)
    have hl := (unb_len L (cutP L N).1 j).1
    obtain ⟨M, b, hu⟩ : ∃ M b, unb L (cutP L N).1 j = (M, b) := ⟨_, _, rfl⟩
    have ih' := fun k hk => ih (by omega) k hk
    rw [hu] at ih' hl
    by_cases hc : M.getD f 0 = 91 ∧ M.getD (e - 1) 0 = 93
    · rw [unb_yes L _ j f e hPj M b hu hc.1 hc.2]
      simp only at hl ih' ⊢
      rw [getD_set _ _ _ _ _ (by rw [List.length_set, hl, hN]; omega), getD_set _ _ _ _ _ (by rw [hl, hN]; omega)]
      by_cases e1 : k = e - 1
      · rw [if_pos e1, e1]
        right; right
        rcases ih' (e - 1) (by omega) with h | h | h
        · exact ⟨by rw [← h]; exact hc.2, rfl⟩
        · rw [h.2] at hc; omega
        · rw [h.2] at hc; omega
      · rw [if_neg e1]
        by_cases e2 : k = f
        · rw [if_pos e2, e2]
          right; left
          rcases ih' f (by omega) with h | h | h
          · exact ⟨by rw [← h]; exact hc.1, rfl⟩
          · rw [h.2] at hc; omega
          · rw [h.2] at hc; omega
        · rw [if_neg e2]
          exact ih' k hk
    · rw [unb_no L _ j f e hPj M b hu hc]
      exact ih' k hk
theorem plain_len (L : List Int) : (plainL L).length = L.length := by simp [plainL]
theorem plain_get (L : List Int) (k : Nat) (hk : k < L.length) : (plainL L).getD k 0 = plainC (L.getD k 0) := by
  unfold plainL
  rw [List.getD_eq_getElem?_getD, List.getD_eq_getElem?_getD, List.getElem?_map, List.getElem?_eq_getElem hk]
  rfl
theorem plain_bytes {L : List Int} (hb : Bytes L) : Bytes (plainL L) := by
  intro x hx
  unfold plainL at hx
  rw [List.mem_map] at hx
  obtain ⟨c, hc, rfl⟩ := hx
  have := hb c hc
  unfold plainC
  split
  · omega
  · split <;> omega
theorem list_ext {α : Type} (A B : List α) (d : α) (h : A.length = B.length) (hk : ∀ k, k < A.length → A.getD k d = B.getD k d) : A = B := by
  apply List.ext_getElem h
  intro i h1 h2
  have := hk i h1
  rw [List.getD_eq_getElem?_getD, List.getD_eq_getElem?_getD, List.getElem?_eq_getElem h1, List.getElem?_eq_getElem h2] at this
  exact this
/-- If the text without blobs is none, the program reads none. -/
theorem bot_G1 (L : List Int) (hb : Bytes L) (h : parse (u8s (plainL L)) = none) : botP L = none := by
  unfold botP
  cases hp : parse (u8s (unb L (cutP L L.length).1 (cutP L L.length).1.length).1) with
  | none => rfl
  | some q =>
    obtain ⟨n, ms⟩ := q
    exfalso
    have hl := (unb_len L (cutP L L.length).1 (cutP L L.length).1.length).1
    have e : plainL L = (unb L (cutP L L.length).1 (cutP L L.length).1.length).1 := by
      refine list_ext _ _ 0 (by rw [plain_len, hl]) (fun k hk => ?_)
      rw [plain_len] at hk
      have r := (read_get (unb_bytes L _ hb _) hp k (by rw [hl]; exact hk)).2
      rw [plain_get L k hk]
      rcases unb_or L L.length rfl _ (Nat.le_refl _) k hk with h1 | h1 | h1
      · rw [h1] at r ⊢
        rw [r]
        unfold plainC
        split <;> rfl
      · rw [h1.1, h1.2]; rfl
      · rw [h1.1, h1.2]; rfl
    rw [e, hp] at h
    cases h
theorem starts_nodup (n : Int) (ms : List Int) (k : Nat) : (starts n ms k).Nodup := List.Nodup.sublist List.filter_sublist List.nodup_range
theorem starts_apart {n : Int} {ms : List Int} (h : Net n ms) {s t : Nat} (hs : s ∈ starts n ms (2 * n).toNat) (ht : t ∈ starts n ms (2 * n).toNat) :
    (s : Int) ≠ qq n ms t ∧ (s ≠ t → qq n ms s ≠ qq n ms t) := by
  have hn := h.bd
  rw [mem_starts] at hs ht
  have s1 := start_up h s (by omega) hs.2
  have t1 := start_up h t (by omega) ht.2
  have s2 := h.inv s (by omega) (by omega)
  have t2 := h.inv t (by omega) (by omega)
  refine ⟨fun e => ?_, fun hne e => hne ?_⟩
  · rw [← e] at t2; omega
  · rw [e, t2] at s2; omega
/-- The line of a place that starts has blobs at both ends. -/
def Both (n : Int) (ms L : List Int) (s : Nat) : Prop := L.getD s 0 = 91 ∧ L.getD (qq n ms s).toNat 0 = 93
theorem unb_V {n : Int} {ms : List Int} (h : Net n ms) (L : List Int) (hL : (L.length : Int) = 2 * n) (j : Nat) (hj : j ≤ (starts n ms (2 * n).toNat).length) :
    (∀ s ∈ (starts n ms (2 * n).toNat).take j, Both n ms L s → (unb L ((starts n ms (2 * n).toNat).map (prt n ms)) j).1.getD s 0 = 40 ∧ (unb L ((starts n ms (2 * n).toNat).map (prt n ms)) j).1.getD (qq n ms s).toNat 0 = 41) ∧
    (∀ k : Nat, (∀ s ∈ (starts n ms (2 * n).toNat).take j, Both n ms L s → k ≠ s ∧ (k : Int) ≠ qq n ms s) → (unb L ((starts n ms (2 * n).toNat).map (prt n ms)) j).1.getD k 0 = L.getD k 0) ∧
    (∀ x, x ∈ (unb L ((starts n ms (2 * n).toNat).map (prt n ms)) j).2 ↔ ∃ s ∈ (starts n ms (2 * n).toNat).take j, Both n ms L s ∧ x = (s : Int)) := by
  have hn := h.bd
  induction j with
  | zero => exact ⟨fun s hs => by simp at hs, fun k _ => rfl, fun x => by simp [unb]⟩
  | succ j ih =>
    obtain ⟨v1, v2, v3⟩ := ih (by omega)
    obtain ⟨M, b, hu⟩ : ∃ M b, unb L ((starts n ms (2 * n).toNat).map (prt n ms)) j = (M, b) := ⟨_, _, rfl⟩
    have hl := (unb_len L ((starts n ms (2 * n).toNat).map (prt n ms)) j).1
    rw [hu] at v1 v2 v3 hl
    simp only at v1 v2 v3 hl
    obtain ⟨s, hs⟩ : ∃ s, (starts n ms (2 * n).toNat)[j]? = some s := ⟨_, List.getElem?_eq_getElem (by omega)⟩
    have hsm := List.mem_of_getElem? hs
    have hsm' := mem_starts.1 hsm
    have hnd := starts_nodup n ms (2 * n).toNat
    have htk : (starts n ms (2 * n).toNat).take (j + 1) = (starts n ms (2 * n).toNat).take j ++ [s] := by rw [List.take_add_one, hs]; rfl
    have hsn : s ∉ (starts n ms (2 * n).toNat).take j := by
      have : ((starts n ms (2 * n).toNat).take (j + 1)).Nodup := hnd.sublist (List.take_sublist _ _)
      rw [htk, List.nodup_append] at this
      intro hm
      exact this.2.2 s hm s (by simp) rfl
    have hP : ((starts n ms (2 * n).toNat).map (prt n ms))[j]? = some (s, (qq n ms s).toNat + 1) := by rw [List.getElem?_map, hs]; rfl
    have su := start_up h s (by omega) hsm'.2
    have q0 := h.lt s (by omega) (by omega)
    have hap : ∀ t ∈ (starts n ms (2 * n).toNat).take j, t ≠ s ∧ (s : Int) ≠ qq n ms t ∧ (t : Int) ≠ qq n ms s ∧ qq n ms t ≠ qq n ms s := fun t ht => by
      have htm := List.mem_of_mem_take ht
      have hts : t ≠ s := fun e => hsn (e ▸ ht)
      exact ⟨hts, (starts_apart h hsm htm).1, (starts_apart h htm hsm).1, (starts_apart h htm hsm).2 hts⟩
    have m1 : M.getD s 0 = L.getD s 0 := v2 s (fun t ht _ => ⟨fun e => (hap t ht).1 e.symm, (hap t ht).2.1⟩)
    have m2 : M.getD (qq n ms s).toNat 0 = L.getD (qq n ms s).toNat 0 := v2 _ (fun t ht _ => ⟨fun e => (hap t ht).2.2.1 (by omega), fun e => (hap t ht).2.2.2 (by omega)⟩)
    have hq2 : ∀ t ∈ (starts n ms (2 * n).toNat).take j, 0 ≤ qq n ms t := fun t ht => by
      have := mem_starts.1 (List.mem_of_mem_take ht)
      exact (h.lt t (by omega) (by omega)).1
    by_cases hB : Both n ms L s
    · rw [unb_yes L _ j s _ hP M b hu (by rw [m1]; exact hB.1) (by rw [Nat.add_sub_cancel, m2]; exact hB.2)]
      simp only [Nat.add_sub_cancel]
      have g : ∀ k, ((M.set s 40).set (qq n ms s).toNat 41).getD k 0 = if k = (qq n ms s).toNat then 41 else if k = s then 40 else M.getD k 0 := fun k => by
        rw [getD_set _ _ _ _ _ (by rw [List.length_set, hl]; omega), getD_set _ _ _ _ _ (by rw [hl]; omega)]
      refine ⟨fun t ht hBt => ?_, fun k hk => ?_, fun x => ?_⟩
      · rw [htk, List.mem_append, List.mem_singleton] at ht
        rw [g, g]
        rcases ht with ht | rfl
        · have a := hap t ht
          have a2 := hq2 t ht
          have := v1 t ht hBt
          rw [if_neg (by omega), if_neg a.1, if_neg (by omega), if_neg (by omega)]
          exact this
        · rw [if_neg (by omega), if_pos rfl, if_pos rfl]; exact ⟨rfl, rfl⟩
      · have a := hk s (by rw [htk]; simp) hB
        rw [g, if_neg (by omega), if_neg a.1]
        exact v2 k (fun t ht hBt => hk t (by rw [htk]; simp [ht]) hBt)
      · rw [List.mem_append, List.mem_singleton, v3, htk]
        constructor
        · rintro (⟨t, ht, hBt, e⟩ | e)
          · exact ⟨t, by simp [ht], hBt, e⟩
          · exact ⟨s, by simp, hB, e⟩
        · rintro ⟨t, ht, hBt, e⟩
          rw [List.mem_append, List.mem_singleton] at ht
          rcases ht with ht | rfl
          · exact .inl ⟨t, ht, hBt, e⟩
          · exact .inr e
    · rw [unb_no L _ j s _ hP M b hu (fun hc => hB ⟨by rw [← m1]; exact hc.1, by rw [← m2]; rw [Nat.add_sub_cancel] at hc; exact hc.2⟩)]
      refine ⟨fun t ht hBt => ?_, fun k hk => ?_, fun x => ?_⟩
      · rw [htk, List.mem_append, List.mem_singleton] at ht
        rcases ht with ht | rfl
        · exact v1 t ht hBt
        · exact (hB hBt).elim
      · exact v2 k (fun t ht hBt => hk t (by rw [htk]; simp [ht]) hBt)
      · rw [v3, htk]
        constructor
        · rintro ⟨t, ht, r⟩; exact ⟨t, by simp [ht], r⟩
        · rintro ⟨t, ht, hBt, e⟩
          rw [List.mem_append, List.mem_singleton] at ht
          rcases ht with ht | rfl
          · exact ⟨t, ht, hBt, e⟩
          · exact (hB hBt).elim
theorem plainC_id (c : Int) (h : ¬ (c = 91 ∨ c = 93)) : plainC c = c := by
  unfold plainC
  rw [if_neg (fun e => h (.inl e)), if_neg (fun e => h (.inr e))]
theorem plainC_stp (c : Int) (h0 : plainC c = 40 ∨ plainC c = 41) : stp c = stp (plainC c) := by
  unfold plainC at h0 ⊢
  by_cases h1 : c = 91
  · subst h1; rfl
  · rw [if_neg h1] at h0 ⊢
    by_cases h2 : c = 93
    · subst h2; rfl
    · rw [if_neg h2]
theorem pl_inj {n : Int} {a b : Int} (a0 : 0 ≤ a) (a2 : a < 2 * n) (b0 : 0 ≤ b) (b2 : b < 2 * n) (h : pl n a = pl n b) : a = b := by
  rw [← pl_pl n a a0 a2, h, pl_pl n b b0 b2]
/-- Else the program reads a text exactly if the marks are blobs of the diagram, and then these. -/
theorem bot_G2 (L : List Int) (hb : Bytes L) (n : Int) (ms : List Int) (h : parse (u8s (plainL L)) = some (n, ms)) :
    botP L = if isB n ms (mkK n L L.length) = true then some (n, ms, mkK n L L.length) else none := by
  have hpb := plain_bytes hb
  have hnet := parse_net _ _ _ h
  obtain ⟨h1, h8⟩ := hnet.bd
  have hms := parse_len _ _ _ h
  have hN : (L.length : Int) = 2 * n := by
    have := (parse_pst _ _ _ h).2.1
    rw [u8s_len, plain_len] at this; exact this
  have hN2 : (2 * n).toNat = L.length := by omega
  have hpl : ∀ k, k < L.length → plainC (L.getD k 0) = if (k : Int) < qq n ms k then 40 else 41 := fun k hk => by
    rw [← plain_get L k hk]
    exact (read_get hpb h k (by rw [plain_len]; exact hk)).2
  have hLett : Lett n ms L := by
    intro k hk
    have e := hpl k (by omega)
    rw [plainC_stp _ (by rw [e]; split <;> simp), e]
    split <;> rfl
  have hP : (cutP L L.length).1 = (starts n ms (2 * n).toNat).map (prt n ms) := by rw [← hN2]; exact cut_all hnet L hLett
  have hPl : (cutP L L.length).1.length = (starts n ms (2 * n).toNat).length := by rw [hP, List.length_map]
  have hd : isD n ms = true := (isD_iff n ms hms (parse_bytes _ _ _ h)).2 (parse_isS _ _ _ h)
  obtain ⟨v1, v2, v3⟩ := unb_V hnet L hN (starts n ms (2 * n).toNat).length (Nat.le_refl _)
  rw [List.take_length] at v1 v2 v3
  rw [← hP] at v1 v2 v3
  rw [← hPl] at v1 v2 v3
  have hor := unb_or L L.length rfl (cutP L L.length).1.length (Nat.le_refl _)
  have hul := unb_len L (cutP L L.length).1 (cutP L L.length).1.length
  have hub := unb_bytes L (cutP L L.length).1 hb (cutP L L.length).1.length
  unfold botP
  obtain ⟨M, b, hu⟩ : ∃ M b, unb L (cutP L L.length).1 (cutP L L.length).1.length = (M, b) := ⟨_, _, rfl⟩
  rw [hu] at v1 v2 v3 hor hul hub ⊢
  simp only at v1 v2 v3 hor hul hub ⊢
  clear hu hP hPl
  -- marks and places
  have mk_at : ∀ t, t < L.length → ((mkK n L L.length).getD (pl n (t : Int)).toNat false = true ↔ (L.getD t 0 = 91 ∨ L.getD t 0 = 93)) := fun t ht => by
    have pb := pl_bd n t h8 (by omega) (by omega)
    rw [mkK_get _ _ _ _ (by omega)]
    constructor
    · rintro ⟨u, hu, hc, e⟩
      have pu := pl_bd n u h8 (by omega) (by omega)
      have := pl_inj (n := n) (a := t) (b := u) (by omega) (by omega) (by omega) (by omega) (by omega)
      have : t = u := by omega
      subst this; exact hc
    · intro hc; exact ⟨t, ht, hc, rfl⟩
  have ends : ∀ s ∈ starts n ms (2 * n).toNat, s < L.length ∧ (s : Int) < qq n ms s ∧ qq n ms s < 2 * n ∧ qq n ms (qq n ms s) = s ∧ opens n ms s = [] := fun s hs => by
    have h' := mem_starts.1 hs
    have q0 := hnet.lt s (by omega) (by omega)
    exact ⟨by omega, start_up hnet s (by omega) h'.2, q0.2.1, hnet.inv s (by omega) (by omega), h'.2⟩
  by_cases hB : isB n ms (mkK n L L.length) = true
  · rw [if_pos hB]
    have hok : ∀ i, i < 16 → okB n ms (mkK n L L.length) i = true := fun i hi => by
      unfold isB at hB
      rw [Bool.and_eq_true, List.all_eq_true] at hB
      exact hB.2 i (by simpa using hi)
    -- a marked place is the end of a line with blobs at both ends
    have key : ∀ t, t < L.length → (L.getD t 0 = 91 ∨ L.getD t 0 = 93) → ∃ s ∈ starts n ms (2 * n).toNat, Both n ms L s ∧ ((t : Int) = s ∨ (t : Int) = qq n ms s) := fun t ht hc => by
      have pb := pl_bd n t h8 (by omega) (by omega)
      have pt := (mk_at t ht).2 hc
      have o := hok (pl n (t : Int)).toNat (by omega)
      unfold okB at o
      rw [pt] at o
      simp only [Bool.not_true, Bool.false_or, Bool.and_eq_true, decide_eq_true_eq] at o
      obtain ⟨⟨_, o2⟩, o3⟩ := o
      rw [show (((pl n (t : Int)).toNat : Nat) : Int) = pl n t by omega] at o3
      have q0 := hnet.lt t (by omega) (by omega)
      rw [hnet.mt t (by omega) (by omega)] at o3
      have oq : L.getD (qq n ms t).toNat 0 = 91 ∨ L.getD (qq n ms t).toNat 0 = 93 := by
        refine (mk_at (qq n ms t).toNat (by omega)).1 ?_
        rw [show (((qq n ms t).toNat : Nat) : Int) = qq n ms t by omega]; exact o3
      obtain ⟨s, hs, he⟩ := (opB_get n ms _ _ (by omega)).1 o2
      obtain ⟨e1, e2, e3, e4, e5⟩ := ends s hs
      have ps := pl_bd n s h8 (by omega) (by omega)
      have pq := pl_bd n (qq n ms s) h8 (by omega) (by omega)
      have hts : (t : Int) = s ∨ (t : Int) = qq n ms s := by
        rcases he with he | he
        · exact .inl (pl_inj (n := n) (by omega) (by omega) (by omega) (by omega) (by omega))
        · rw [hnet.mt s (by omega) (by omega)] at he
          exact .inr (pl_inj (n := n) (by omega) (by omega) (by omega) (by omega) (by omega))
      have c1 : L.getD s 0 = 91 ∨ L.getD s 0 = 93 := by
        rcases hts with e | e
        · have : t = s := by omega
          subst this; exact hc
        · rw [e, e4] at oq
          rw [Int.toNat_natCast] at oq; exact oq
      have c2 : L.getD (qq n ms s).toNat 0 = 91 ∨ L.getD (qq n ms s).toNat 0 = 93 := by
        rcases hts with e | e
        · rw [e] at oq; exact oq
        · have : t = (qq n ms s).toNat := by omega
          rw [this] at hc; exact hc
      have d1 := hpl s e1
      rw [if_pos e2] at d1
      have d2 := hpl (qq n ms s).toNat (by omega)
      rw [show (((qq n ms s).toNat : Nat) : Int) = qq n ms s by omega, e4, if_neg (by omega)] at d2
      refine ⟨s, hs, ⟨?_, ?_⟩, hts⟩
      · rcases c1 with c | c
        · exact c
        · rw [c] at d1; exact absurd d1 (by decide)
      · rcases c2 with c | c
        · rw [c] at d2; exact absurd d2 (by decide)
        · exact c
    have hM : M = plainL L := by
      refine list_ext _ _ 0 (by rw [plain_len]; exact hul.1) (fun k hk => ?_)
      rw [hul.1] at hk
      rw [plain_get L k hk]
      by_cases hc : L.getD k 0 = 91 ∨ L.getD k 0 = 93
      · obtain ⟨s, hs, hBo, e⟩ := key k hk hc
        obtain ⟨w1, w2⟩ := v1 s hs hBo
        rcases e with e | e
        · have : k = s := by omega
          subst this
          rw [w1, hBo.1]; rfl
        · have : k = (qq n ms s).toNat := by omega
          rw [this, w2, hBo.2]; rfl
      · rw [plainC_id _ hc]
        refine v2 k (fun s hs hBo => ⟨fun e => hc ?_, fun e => hc ?_⟩)
        · rw [e]; exact .inl hBo.1
        · rw [show k = (qq n ms s).toNat by omega]; exact .inr hBo.2
    rw [hM, h]
    simp only
    congr 3
    refine list_ext _ _ false (by rw [bsK_len, mkK_len]) (fun i hi => ?_)
    rw [bsK_len] at hi
    rw [Bool.eq_iff_iff, bsK_get _ _ _ _ _ hi (Nat.le_refl _), List.take_length, mkK_get _ _ _ _ hi]
    constructor
    · rintro ⟨x, hx, e⟩
      obtain ⟨s, hs, hBo, rfl⟩ := (v3 x).1 hx
      obtain ⟨e1, e2, e3, e4, e5⟩ := ends s hs
      rcases e with e | e
      · exact ⟨s, e1, .inl hBo.1, e⟩
      · rw [hnet.mt s (by omega) (by omega)] at e
        exact ⟨(qq n ms s).toNat, by omega, .inr hBo.2, by rw [show (((qq n ms s).toNat : Nat) : Int) = qq n ms s by omega]; exact e⟩
    · rintro ⟨t, ht, hc, e⟩
      obtain ⟨s, hs, hBo, hts⟩ := key t ht hc
      obtain ⟨e1, e2, e3, e4, e5⟩ := ends s hs
      refine ⟨s, (v3 s).2 ⟨s, hs, hBo, rfl⟩, ?_⟩
      rcases hts with h' | h'
      · left; rw [e, h']
      · right; rw [hnet.mt s (by omega) (by omega), e, h']
  · rw [if_neg hB]
    cases hp : parse (u8s M) with
    | none => rfl
    | some q =>
      exfalso
      obtain ⟨n', ms'⟩ := q
      apply hB
      refine isB_yes n ms _ hd (fun i hi => ?_)
      unfold okB
      cases hi2 : (mkK n L L.length).getD i false with
      | false => rfl
      | true =>
        obtain ⟨t, ht, hc, e⟩ := (mkK_get n L _ i hi).1 hi2
        have r := (read_get hub hp t (by rw [hul.1]; exact ht)).2
        have hne : M.getD t 0 ≠ L.getD t 0 := fun e' => by
          rw [e'] at r
          rcases hc with hc | hc
          · rw [hc] at r; revert r; split <;> decide
          · rw [hc] at r; revert r; split <;> decide
        have : ∃ s ∈ starts n ms (2 * n).toNat, Both n ms L s ∧ (t = s ∨ (t : Int) = qq n ms s) := by
          apply Classical.byContradiction
          intro hno
          refine hne (v2 t (fun s hs hBo => ⟨fun e => hno ⟨s, hs, hBo, .inl e⟩, fun e => hno ⟨s, hs, hBo, .inr e⟩⟩))
        obtain ⟨s, hs, hBo, hts⟩ := this
        obtain ⟨e1, e2, e3, e4, e5⟩ := ends s hs
        have pt := pl_bd n t h8 (by omega) (by omega)
        have ps := pl_bd n s h8 (by omega) (by omega)
        have pq := pl_bd n (qq n ms s) h8 (by omega) (by omega)
        have b1 : decide ((i : Int) < 2 * n) = true := by rw [decide_eq_true_eq]; omega
        have b2 : (opB n ms (2 * n).toNat).getD i false = true := by
          refine (opB_get n ms _ _ hi).2 ⟨s, hs, ?_⟩
          rcases hts with h' | h'
          · left; rw [e, h']
          · right; rw [hnet.mt s (by omega) (by omega), e, h']
        have b3 : (mkK n L L.length).getD (mate ms i).toNat false = true := by
          rw [show (i : Int) = pl n t by omega]
          rcases hts with h' | h'
          · rw [h', hnet.mt s (by omega) (by omega)]
            have := (mk_at (qq n ms s).toNat (by omega)).2 (.inr hBo.2)
            rw [show (((qq n ms s).toNat : Nat) : Int) = qq n ms s by omega] at this
            exact this
          · rw [h', hnet.mt _ (by omega) (by omega), e4]
            exact (mk_at s e1).2 (.inl hBo.1)
        rw [b1, b2, b3]; rfl
end Go.Proofs.Ytbegolbognkefaa
