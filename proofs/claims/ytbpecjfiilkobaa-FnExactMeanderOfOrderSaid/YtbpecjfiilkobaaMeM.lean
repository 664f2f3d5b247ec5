/- Plain mathematics of systems of arches: how a text is read, what arches do, curves of two systems, how many there are. -/
import Derived.Test.YtbpecjfiilkobaaParse
namespace Go.Proofs.Ytbpecjfiilkobaa
open Go.RowKit
set_option linter.unusedVariables false
set_option linter.unusedSimpArgs false
def z12 : List Int := List.replicate 12 0
/-- What has been read behind k letters: the mates so far, and the places that are open. -/
def sst (l : List UInt8) : Nat → Option (List Int × List Nat)
  | 0 => some (z12, [])
  | k + 1 => match sst l k with
    | none => none
    | some (o, st) =>
      if l[k]? = some 40 then some (o, st ++ [k])
      else if l[k]? = some 41 then
        match st.getLast? with
        | none => none
        | some y => some ((o.set y (k : Int)).set k (y : Int), st.dropLast)
      else none
/-- The mates of the points of a system, twelve places. -/
def sarc (l : List UInt8) : Option (List Int) :=
  if 2 ≤ l.length ∧ l.length ≤ 12 then
    match sst l l.length with
    | some (o, []) => some o
    | _ => none
  else none
theorem sst_none (l : List UInt8) (k : Nat) (h : sst l k = none) (d : Nat) : sst l (k + d) = none := by
  induction d with
  | zero => exact h
  | succ d ih =>
    show sst l (k + d + 1) = none
    unfold sst; rw [ih]
theorem sst_none_le (l : List UInt8) (k m : Nat) (h : sst l k = none) (hm : k ≤ m) : sst l m = none := by
  have := sst_none l k h (m - k)
  rwa [show k + (m - k) = m by omega] at this
theorem sst_len (l : List UInt8) (k : Nat) (o : List Int) (st : List Nat) (h : sst l k = some (o, st)) : o.length = 12 ∧ st.length ≤ k ∧ ∀ y ∈ st, y < k := by
  induction k generalizing o st with
  | zero => simp [sst] at h; obtain ⟨rfl, rfl⟩ := h; simp [z12]
  | succ k ih =>
    unfold sst at h
    cases hp : sst l k with
    | none => rw [hp] at h; simp at h
    | some q =>
      obtain ⟨o', st'⟩ := q
      obtain ⟨h1, h2, h3⟩ := ih o' st' hp
      rw [hp] at h
      simp only at h
      split at h
      · simp at h; obtain ⟨rfl, rfl⟩ := h
        refine ⟨h1, by simp; omega, fun y hy => ?_⟩
        rw [List.mem_append] at hy
        rcases hy with hy | hy
        · have := h3 y hy; omega
        · simp at hy; omega
      · split at h
        · cases hl : st'.getLast? with
          | none => rw [hl] at h; simp at h
          | some y =>
            rw [hl] at h; simp at h; obtain ⟨rfl, rfl⟩ := h
            refine ⟨by simp [h1], by simp; omega, fun y hy => ?_⟩
            have := h3 y (List.dropLast_subset _ hy); omega
        · simp at h
theorem sst_open (l : List UInt8) (k : Nat) (o : List Int) (st : List Nat) (h : sst l k = some (o, st)) (hc : l[k]? = some 40) : sst l (k + 1) = some (o, st ++ [k]) := by
  rw [sst, h]; simp [hc]
theorem sst_close (l : List UInt8) (k : Nat) (o : List Int) (st : List Nat) (y : Nat) (h : sst l k = some (o, st ++ [y])) (hc : l[k]? = some 41) : sst l (k + 1) = some ((o.set y (k : Int)).set k (y : Int), st) := by
  rw [sst, h]; simp [hc]
theorem sst_empty (l : List UInt8) (k : Nat) (o : List Int) (h : sst l k = some (o, [])) (hc : l[k]? ≠ some 40) : sst l (k + 1) = none := by
  rw [sst, h]; simp [hc]
theorem sst_other (l : List UInt8) (k : Nat) (o : List Int) (st : List Nat) (h : sst l k = some (o, st)) (hc : l[k]? ≠ some 40) (hd : l[k]? ≠ some 41) : sst l (k + 1) = none := by
  rw [sst, h]; simp [hc, hd]
theorem sarc_some (l : List UInt8) (h1 : 2 ≤ l.length) (h8 : l.length ≤ 12) (o : List Int) (h : sst l l.length = some (o, [])) : sarc l = some o := by
  unfold sarc
  rw [if_pos ⟨h1, h8⟩, h]
theorem sarc_open (l : List UInt8) (o : List Int) (st : List Nat) (y : Nat) (h : sst l l.length = some (o, st ++ [y])) : sarc l = none := by
  unfold sarc
  split
  · rw [h]; cases st <;> simp
  · rfl
theorem sarc_bad (l : List UInt8) (k : Nat) (hk : k ≤ l.length) (h : sst l k = none) : sarc l = none := by
  unfold sarc
  split
  · rw [sst_none_le _ _ _ h hk]
  · rfl
theorem sarc_size (l : List UInt8) (h : l.length < 2 ∨ 12 < l.length) : sarc l = none := by
  unfold sarc
  rw [if_neg]
  omega
theorem gset (l : List Int) (j : Nat) (hj : j < l.length) (v : Int) (i : Nat) : (l.set j v).getD i 0 = if i = j then v else l.getD i 0 := by
  rw [List.getD_eq_getElem?_getD, List.getD_eq_getElem?_getD, List.getElem?_set]
  by_cases e : j = i
  · subst e; simp [hj]
  · rw [if_neg e, if_neg (fun h => e h.symm)]
theorem z12_get (j : Nat) : z12.getD j 0 = 0 := by
  unfold z12; rw [List.getD_eq_getElem?_getD, List.getElem?_replicate]; split <;> rfl
/-- What a reading keeps. -/
structure SInv (k : Nat) (o : List Int) (st : List Nat) : Prop where
  len : o.length = 12
  odd : st.length % 2 = k % 2
  lt : ∀ y ∈ st, y < k
  par : ∀ i (h : i < st.length), st[i] % 2 = i % 2
  nd : st.Nodup
  arc : ∀ j, j < k → j ∉ st → 0 ≤ o.getD j 0 ∧ o.getD j 0 < k ∧ (o.getD j 0).toNat ∉ st ∧ o.getD (o.getD j 0).toNat 0 = j ∧ (o.getD j 0 + j) % 2 = 1
  out : ∀ j, k ≤ j → o.getD j 0 = 0
theorem sst_inv (l : List UInt8) (h12 : l.length ≤ 12) (k : Nat) (hk : k ≤ l.length) : ∀ (o : List Int) (st : List Nat), sst l k = some (o, st) → SInv k o st := by
  induction k with
  | zero =>
    intro o st h
    simp [sst] at h; obtain ⟨rfl, rfl⟩ := h
    refine ⟨by simp [z12], by simp, by simp, by simp, by simp, fun j hj => by omega, fun j _ => z12_get j⟩
  | succ k ih =>
    intro o st h
    unfold sst at h
    cases hp : sst l k with
    | none => rw [hp] at h; simp at h
    | some q =>
      obtain ⟨o', st'⟩ := q
      have I := ih (by omega) o' st' hp
      rw [hp] at h
      simp only at h
      split at h
      · simp at h; obtain ⟨rfl, rfl⟩ := h
        refine ⟨I.len, by have := I.odd; simp; omega, ?_, ?_, ?_, ?_, fun j hj => I.out j (by omega)⟩
        · intro y hy
          rw [List.mem_append] at hy
          rcases hy with hy | hy
          · have := I.lt y hy; omega
          · simp at hy; omega
        · intro i hi
          rw [List.getElem_append]
          split
          · rename_i h1; exact I.par i h1
          · have := I.odd
            simp at hi ⊢
            omega
        · rw [List.nodup_append]
          refine ⟨I.nd, by simp, fun a ha b hb e => ?_⟩
          have := I.lt a ha
          simp at hb; omega
        · intro j hj hn
          rw [List.mem_append] at hn
          have hjk : j ≠ k := fun e => hn (.inr (by simp [e]))
          obtain ⟨a1, a2, a3, a4, a5⟩ := I.arc j (by omega) (fun e => hn (.inl e))
          refine ⟨a1, by omega, fun e => ?_, a4, a5⟩
          rw [List.mem_append] at e
          rcases e with e | e
          · exact a3 e
          · have := List.mem_singleton.1 e; omega
      · split at h
        · rcases List.eq_nil_or_concat st' with h0 | ⟨ys, y, h0⟩
          · subst h0; simp at h
          · rw [List.concat_eq_append] at h0
            subst h0
            simp at h; obtain ⟨rfl, rfl⟩ := h
            have hy : y < k := I.lt y (by simp)
            have hk12 : k < 12 := by omega
            have l1 := I.len
            have py := I.par ys.length (by simp)
            simp at py
            have pk := I.odd
            simp at pk
            have nd := I.nd
            rw [List.nodup_append] at nd
            have ny : y ∉ ys := fun e => nd.2.2 y e y (by simp) rfl
            have G : ∀ i, ((o'.set y (k : Int)).set k (y : Int)).getD i 0 = if i = k then (y : Int) else if i = y then (k : Int) else o'.getD i 0 := by
              intro i
              rw [gset _ _ (by simp; omega), gset _ _ (by omega)]
            refine ⟨by simp [l1], by omega, fun z hz => ?_, fun i hi => ?_, nd.1, fun j hj hn => ?_, fun j hj => ?_⟩
            · have := I.lt z (by simp [hz]); omega
            · have := I.par i (by simp; omega)
              rw [List.getElem_append_left hi] at this; exact this
            · rw [G]
              by_cases e : j = k
              · subst e
                rw [if_pos rfl]
                refine ⟨by omega, by omega, by simpa using ny, ?_, by omega⟩
                rw [G, if_neg (by omega), if_pos (by omega)]
              · rw [if_neg e]
                by_cases e2 : j = y
                · subst e2
                  rw [if_pos rfl]
                  refine ⟨by omega, by omega, fun h => ?_, ?_, by omega⟩
                  · have := I.lt k (by simp at h; simp [h]); omega
                  · rw [G, if_pos (by omega)]
                · rw [if_neg e2]
                  obtain ⟨a1, a2, a3, a4, a5⟩ := I.arc j (by omega) (by simp; exact ⟨hn, e2⟩)
                  rw [List.mem_append, not_or, List.mem_singleton] at a3
                  refine ⟨a1, by omega, a3.1, ?_, a5⟩
                  rw [G, if_neg (by omega), if_neg a3.2]; exact a4
            · rw [G, if_neg (by omega), if_neg (by omega)]
              exact I.out j (by omega)
        · simp at h
/-- Arches, twelve places, of which the first L are points. -/
structure Sys (L : Nat) (o : List Int) : Prop where
  len : o.length = 12
  two : 2 ≤ L
  top : L ≤ 12
  even : L % 2 = 0
  arc : ∀ j, j < L → 0 ≤ o.getD j 0 ∧ o.getD j 0 < L ∧ o.getD (o.getD j 0).toNat 0 = j ∧ (o.getD j 0 + j) % 2 = 1
  out : ∀ j, L ≤ j → o.getD j 0 = 0
theorem sarc_sys {l : List UInt8} {o : List Int} (h : sarc l = some o) : Sys l.length o := by
  unfold sarc at h
  split at h
  · rename_i hb
    split at h
    · rename_i o' hp
      simp at h; subst h
      have I := sst_inv l hb.2 l.length (Nat.le_refl _) _ _ hp
      refine ⟨I.len, hb.1, hb.2, by have := I.odd; simp at this; omega, fun j hj => ?_, I.out⟩
      obtain ⟨a1, a2, a3, a4, a5⟩ := I.arc j hj (by simp)
      exact ⟨a1, a2, a4, a5⟩
    · simp at h
  · simp at h
/-- How the two readings of a text go together. -/
def BothS (n : Int) (N : Nat) : Option (List Int × List Int) → Option (List Int × List Nat) → Prop
  | none, none => True
  | some (ms, op), some (o, st) => op = st.map (fun y : Nat => (y : Int)) ∧ ms.length = 16 ∧ ∀ j : Nat, j < N → ms.getD (pl n j).toNat 0 = pl n (o.getD j 0)
  | _, _ => False
theorem pl_injS {n : Int} {i j : Int} (h1 : 1 ≤ n) (i0 : 0 ≤ i) (i2 : i < 2 * n) (j0 : 0 ≤ j) (j2 : j < 2 * n) (h : pl n i = pl n j) : i = j := by
  unfold pl at h; split at h <;> split at h <;> omega
theorem joinL_getS (ms : List Int) (hl : ms.length = 16) (i j : Int) (i0 : 0 ≤ i) (i2 : i < 16) (j0 : 0 ≤ j) (j2 : j < 16) (x : Nat) : (joinL ms i j).getD x 0 = if x = j.toNat then i else if x = i.toNat then j else ms.getD x 0 := by
  unfold joinL
  rw [gset _ _ (by simp; omega), gset _ _ (by omega)]
theorem both_at (l : List UInt8) (N : Nat) (hl : l.length = 2 * N) (h1 : 1 ≤ N) (h6 : N ≤ 6) (k : Nat) (hk : k ≤ 2 * N) : BothS N (2 * N) (pst N l k) (sst l k) := by
  induction k with
  | zero =>
    unfold pst sst
    refine ⟨rfl, by simp [zeros], fun j hj => ?_⟩
    have e1 := z12_get j
    have e2 : zeros.getD (pl N j).toNat 0 = 0 := by unfold zeros; rw [List.getD_eq_getElem?_getD, List.getElem?_replicate]; split <;> rfl
    rw [e1, e2]; unfold pl; split <;> omega
  | succ k ih =>
    have B := ih (by omega)
    unfold pst sst
    cases hp : pst N l k with
    | none =>
      cases hs : sst l k with
      | none => trivial
      | some q => rw [hp, hs] at B; exact B.elim
    | some r =>
      obtain ⟨ms, op⟩ := r
      cases hs : sst l k with
      | none => rw [hp, hs] at B; exact B.elim
      | some q =>
        obtain ⟨o, st⟩ := q
        rw [hp, hs] at B
        obtain ⟨rfl, hml, hg⟩ := B
        have I := sst_inv l (by omega) k (by omega) o st hs
        simp only
        by_cases c : l[k]? = some 40
        · rw [if_pos c, if_pos c]
          exact ⟨by simp, hml, hg⟩
        · rw [if_neg c, if_neg c]
          by_cases d : l[k]? = some 41
          · rw [if_pos d, if_pos d]
            rcases List.eq_nil_or_concat st with h0 | ⟨ys, y, h0⟩
            · subst h0; simp [BothS]
            · rw [List.concat_eq_append] at h0
              subst h0
              have hy : y < k := I.lt y (by simp)
              simp only [List.map_append, List.map_cons, List.map_nil, List.getLast?_append, List.getLast?_singleton, Option.some_or, List.dropLast_concat]
              have by' := pl_bd N y (by omega) (by omega) (by omega)
              have bk := pl_bd N k (by omega) (by omega) (by omega)
              refine ⟨rfl, by rw [joinL_len]; exact hml, fun j hj => ?_⟩
              have bj := pl_bd N j (by omega) (by omega) (by omega)
              rw [joinL_getS ms hml _ _ by'.1 by'.2.2 bk.1 bk.2.2, gset _ _ (by simp [I.len]; omega), gset _ _ (by rw [I.len]; omega)]
              by_cases e : j = k
              · subst e; rw [if_pos rfl, if_pos rfl]
              · have ne : (pl N j).toNat ≠ (pl N k).toNat := fun h => e (by
                  have := pl_injS (n := N) (i := j) (j := k) (by omega) (by omega) (by omega) (by omega) (by omega) (by omega)
                  omega)
                rw [if_neg ne, if_neg e]
                by_cases e2 : j = y
                · subst e2; rw [if_pos rfl, if_pos rfl]
                · have ne2 : (pl N j).toNat ≠ (pl N y).toNat := fun h => e2 (by
                    have := pl_injS (n := N) (i := j) (j := y) (by omega) (by omega) (by omega) (by omega) (by omega) (by omega)
                    omega)
                  rw [if_neg ne2, if_neg e2]
                  exact hg j hj
          · rw [if_neg d, if_neg d]; trivial
theorem parse_len2 {l : List UInt8} {n : Int} {ms : List Int} (h : parse l = some (n, ms)) : (l.length : Int) = 2 * n ∧ 1 ≤ n ∧ n ≤ 8 ∧ pst n l l.length = some (ms, []) := by
  unfold parse at h
  split at h
  · rename_i hc
    split at h
    · rename_i hp
      simp at h; obtain ⟨rfl, rfl⟩ := h
      exact ⟨by omega, hc.2.1, hc.2.2, hp⟩
    · simp at h
  · simp at h
/-- A diagram of at most six lines was read: so a system was. -/
theorem sarc_of_parse {l : List UInt8} {n : Int} {ms : List Int} (h : parse l = some (n, ms)) (h6 : n ≤ 6) : ∃ o, sarc l = some o ∧ ∀ j : Nat, (j : Int) < 2 * n → ms.getD (pl n j).toNat 0 = pl n (o.getD j 0) := by
  obtain ⟨hl, h1, h8, hp⟩ := parse_len2 h
  obtain ⟨N, rfl⟩ : ∃ N : Nat, n = N := ⟨n.toNat, by omega⟩
  have B := both_at l N (by omega) (by omega) (by omega) l.length (by omega)
  rw [hp] at B
  cases hs : sst l l.length with
  | none => rw [hs] at B; exact B.elim
  | some q =>
    obtain ⟨o, st⟩ := q
    rw [hs] at B
    obtain ⟨he, _, hg⟩ := B
    have : st = [] := by cases st with | nil => rfl | cons a b => simp at he
    subst this
    exact ⟨o, sarc_some l (by omega) (by omega) o hs, fun j hj => hg j (by omega)⟩
theorem sarc_none_parse {l : List UInt8} (h : parse l = none) : sarc l = none := by
  unfold sarc
  split
  · rename_i hb
    split
    · rename_i o hs
      exfalso
      have I := sst_inv l hb.2 l.length (Nat.le_refl _) _ _ hs
      have ho := I.odd
      simp at ho
      have B := both_at l (l.length / 2) (by omega) (by omega) (by omega) l.length (by omega)
      rw [hs] at B
      cases hp : pst ((l.length / 2 : Nat) : Int) l l.length with
      | none => rw [hp] at B; exact B.elim
      | some r =>
        obtain ⟨ms, op⟩ := r
        rw [hp] at B
        obtain ⟨he, _, _⟩ := B
        simp at he; subst he
        rw [parse_some l ((l.length / 2 : Nat) : Int) (by omega) (by omega) (by omega) ms hp] at h
        simp at h
    · rfl
  · rfl
theorem sarc_none_big {l : List UInt8} {n : Int} {ms : List Int} (h : parse l = some (n, ms)) (h6 : 6 < n) : sarc l = none := by
  obtain ⟨hl, _⟩ := parse_len2 h
  exact sarc_size l (by omega)
/-- The places of a program's arches behind k points. -/
def xL (n : Int) (N : Nat) (ms : List Int) : Nat → List Int
  | 0 => List.replicate N 0
  | k + 1 => (xL n N ms k).set (pl n k).toNat (pl n (ms.getD k 0))
theorem xL_len (n : Int) (N : Nat) (ms : List Int) (k : Nat) : (xL n N ms k).length = N := by
  induction k with
  | zero => simp [xL]
  | succ k ih => rw [xL, List.length_set, ih]
theorem pl_pl0 (n : Int) (p : Int) (h0 : 0 ≤ p) (h2 : p < 2 * n) : pl n (pl n p) = p := by
  unfold pl
  by_cases c : p < n
  · rw [if_pos c, if_pos c]
  · rw [if_neg c, if_neg (by omega)]; omega
theorem xL_get (n : Int) (N : Nat) (hN : (N : Int) = 2 * n) (h8 : n ≤ 8) (ms : List Int) (k : Nat) (hk : k ≤ N) (j : Nat) (hj : j < N) : (xL n N ms k).getD j 0 = if pl n j < k then pl n (ms.getD (pl n j).toNat 0) else 0 := by
  have bj := pl_bd n j h8 (by omega) (by omega)
  induction k with
  | zero => rw [if_neg (by omega)]; simp [xL, List.getD_eq_getElem?_getD, List.getElem?_replicate, hj]
  | succ k ih =>
    have bk := pl_bd n k h8 (by omega) (by omega)
    rw [xL, gset _ _ (by rw [xL_len]; omega), ih (by omega)]
    by_cases e : j = (pl n k).toNat
    · have e' : pl n j = k := by rw [e, show (((pl n k).toNat : Nat) : Int) = pl n k by omega]; exact pl_pl0 n k (by omega) (by omega)
      rw [if_pos e, if_pos (by omega), e']
      simp
    · rw [if_neg e]
      have : pl n j ≠ k := fun h => e (by rw [← h, pl_pl0 n j (by omega) (by omega)]; omega)
      by_cases c : pl n j < k
      · rw [if_pos c, if_pos (by omega)]
      · rw [if_neg c, if_neg (by omega)]
theorem gext {a b : List Int} (hl : a.length = b.length) (h : ∀ j, j < a.length → a.getD j 0 = b.getD j 0) : a = b := by
  apply List.ext_getElem hl
  intro i h1 h2
  have := h i h1
  rw [List.getD_eq_getElem?_getD, List.getD_eq_getElem?_getD, List.getElem?_eq_getElem h1, List.getElem?_eq_getElem h2] at this
  exact this
theorem gtake (o : List Int) (N j : Nat) (h : j < N) : (o.take N).getD j 0 = o.getD j 0 := by
  rw [List.getD_eq_getElem?_getD, List.getD_eq_getElem?_getD, List.getElem?_take_of_lt h]
theorem xL_all {l : List UInt8} {n : Int} {ms o : List Int} (h : parse l = some (n, ms)) (h6 : n ≤ 6) (hs : sarc l = some o) : xL n l.length ms l.length = o.take l.length := by
  obtain ⟨hl, h1, h8, hp⟩ := parse_len2 h
  obtain ⟨o', ho', hg⟩ := sarc_of_parse h h6
  rw [hs] at ho'
  simp at ho'; subst ho'
  have S := sarc_sys hs
  refine gext (by rw [xL_len, List.length_take, S.len]; have := S.top; omega) fun j hj => ?_
  rw [xL_len] at hj
  rw [xL_get n l.length hl h8 ms l.length (Nat.le_refl _) j hj, gtake _ _ _ hj]
  have bj := pl_bd n j h8 (by omega) (by omega)
  rw [if_pos (by omega), hg j (by omega)]
  have a := S.arc j hj
  exact pl_pl0 n _ a.1 (by omega)
/-- The mates as natural numbers. -/
def mf (o : List Int) (j : Nat) : Nat := (o.getD j 0).toNat
structure Mf (L : Nat) (f : Nat → Nat) : Prop where
  lt : ∀ j, j < L → f j < L
  inv : ∀ j, j < L → f (f j) = j
  par : ∀ j, j < L → (f j + j) % 2 = 1
theorem Sys.mf {L : Nat} {o : List Int} (h : Sys L o) : Mf L (mf o) := by
  refine ⟨fun j hj => ?_, fun j hj => ?_, fun j hj => ?_⟩ <;> (have a := h.arc j hj; unfold Go.Proofs.Ytbpecjfiilkobaa.mf; first | omega | (rw [a.2.2.1]; omega))
theorem Sys.val {L : Nat} {o : List Int} (h : Sys L o) (j : Nat) (hj : j < L) : o.getD j 0 = ((Go.Proofs.Ytbpecjfiilkobaa.mf o j : Nat) : Int) := by
  have a := h.arc j hj; unfold Go.Proofs.Ytbpecjfiilkobaa.mf; omega
/-- The points from which the curve of s goes up. -/
def seqP (f g : Nat → Nat) (s : Nat) : Nat → Nat
  | 0 => s
  | k + 1 => g (f (seqP f g s k))
/-- The points that the curve of s meets in k rounds. -/
def walkL (f g : Nat → Nat) (s : Nat) : Nat → List Nat
  | 0 => []
  | k + 1 => walkL f g s k ++ [seqP f g s k, f (seqP f g s k)]
theorem seqP_lt {L : Nat} {f g : Nat → Nat} (hf : Mf L f) (hg : Mf L g) {s : Nat} (hs : s < L) (k : Nat) : seqP f g s k < L := by
  induction k with
  | zero => exact hs
  | succ k ih => exact hg.lt _ (hf.lt _ ih)
theorem seqP_par {L : Nat} {f g : Nat → Nat} (hf : Mf L f) (hg : Mf L g) {s : Nat} (hs : s < L) (k : Nat) : seqP f g s k % 2 = s % 2 := by
  induction k with
  | zero => rfl
  | succ k ih =>
    have h1 := seqP_lt hf hg hs k
    have p1 := hf.par _ h1
    have p2 := hg.par _ (hf.lt _ h1)
    show g (f (seqP f g s k)) % 2 = _
    omega
theorem mf_inj {L : Nat} {f : Nat → Nat} (hf : Mf L f) {i j : Nat} (hi : i < L) (hj : j < L) (h : f i = f j) : i = j := by
  rw [← hf.inv i hi, h, hf.inv j hj]
theorem seqP_back {L : Nat} {f g : Nat → Nat} (hf : Mf L f) (hg : Mf L g) {s : Nat} (hs : s < L) (i : Nat) : ∀ d, seqP f g s i = seqP f g s (i + d) → seqP f g s d = s := by
  induction i with
  | zero => intro d h; rw [Nat.zero_add] at h; exact h.symm
  | succ i ih =>
    intro d h
    refine ih d ?_
    rw [show i + 1 + d = (i + d) + 1 by omega] at h
    exact mf_inj hf (seqP_lt hf hg hs _) (seqP_lt hf hg hs _) (mf_inj hg (hf.lt _ (seqP_lt hf hg hs _)) (hf.lt _ (seqP_lt hf hg hs _)) h)
theorem walkL_len (f g : Nat → Nat) (s k : Nat) : (walkL f g s k).length = 2 * k := by
  induction k with
  | zero => rfl
  | succ k ih => rw [walkL, List.length_append, ih]; simp; omega
theorem walkL_mem (f g : Nat → Nat) (s k x : Nat) : x ∈ walkL f g s k ↔ ∃ i, i < k ∧ (x = seqP f g s i ∨ x = f (seqP f g s i)) := by
  induction k with
  | zero => simp [walkL]
  | succ k ih =>
    rw [walkL, List.mem_append, ih]
    constructor
    · rintro (⟨i, h1, h2⟩ | h)
      · exact ⟨i, by omega, h2⟩
      · exact ⟨k, by omega, by simpa using h⟩
    · rintro ⟨i, h1, h2⟩
      by_cases e : i = k
      · subst e; exact .inr (by simpa using h2)
      · exact .inl ⟨i, by omega, h2⟩
theorem walkL_lt {L : Nat} {f g : Nat → Nat} (hf : Mf L f) (hg : Mf L g) {s : Nat} (hs : s < L) (k : Nat) : ∀ x ∈ walkL f g s k, x < L := by
  intro x hx
  obtain ⟨i, _, h⟩ := (walkL_mem f g s k x).1 hx
  have := seqP_lt hf hg hs i
  rcases h with h | h
  · omega
  · rw [h]; exact hf.lt _ this
theorem walkL_nd {L : Nat} {f g : Nat → Nat} (hf : Mf L f) (hg : Mf L g) {s : Nat} (hs : s < L) (k : Nat) (h : ∀ j, 0 < j → j < k → seqP f g s j ≠ s) : (walkL f g s k).Nodup := by
  induction k with
  | zero => simp [walkL]
  | succ k ih =>
    have lt := seqP_lt hf hg hs
    have pr := seqP_par hf hg hs
    have fpr := fun i => hf.par _ (lt i)
    rw [walkL, List.nodup_append]
    have ne : ∀ i, i < k → seqP f g s i ≠ seqP f g s k := fun i hi e => h (k - i) (by omega) (by omega) (seqP_back hf hg hs i (k - i) (by rw [show i + (k - i) = k by omega]; exact e))
    refine ⟨ih (fun j h0 h1 => h j h0 (by omega)), ?_, ?_⟩
    · have a := fpr k
      simp; omega
    · intro a ha b hb e
      obtain ⟨i, hi, hh⟩ := (walkL_mem f g s k a).1 ha
      have p1 := pr i; have p2 := pr k; have p3 := fpr i; have p4 := fpr k
      simp at hb
      subst e
      rcases hh with hh | hh <;> rcases hb with hb | hb
      · exact ne i hi (hh.symm.trans hb)
      · omega
      · omega
      · exact ne i hi (mf_inj hf (lt i) (lt k) (hh.symm.trans hb))
theorem nodup_sub (a : List Nat) : ∀ b : List Nat, a.Nodup → (∀ x ∈ a, x ∈ b) → a.length ≤ b.length := by
  induction a with
  | nil => intro b _ _; simp
  | cons x a ih =>
    intro b hn hs
    rw [List.nodup_cons] at hn
    have hx := hs x (by simp)
    have := ih (b.erase x) hn.2 (fun y hy => (List.mem_erase_of_ne (by intro e; subst e; exact hn.1 hy)).2 (hs y (by simp [hy])))
    rw [List.length_erase_of_mem hx] at this
    have : 0 < b.length := List.length_pos_of_mem hx
    simp; omega
theorem nodup_lt {a : List Nat} {n : Nat} (hn : a.Nodup) (hs : ∀ x ∈ a, x < n) : a.length ≤ n := by
  have := nodup_sub a (List.range n) hn (fun x hx => List.mem_range.2 (hs x hx))
  simpa using this
/-- The curve of s is back behind K rounds, and not before. -/
structure Ret (f g : Nat → Nat) (s K : Nat) : Prop where
  pos : 1 ≤ K
  back : seqP f g s K = s
  first : ∀ j, 0 < j → j < K → seqP f g s j ≠ s
theorem rounds_lt {L : Nat} {f g : Nat → Nat} (hf : Mf L f) (hg : Mf L g) {s : Nat} (hs : s < L) (k : Nat) (h : ∀ j, 0 < j → j < k → seqP f g s j ≠ s) : 2 * k ≤ L := by
  have := nodup_lt (walkL_nd hf hg hs k h) (walkL_lt hf hg hs k)
  rwa [walkL_len] at this
theorem Ret.uniq {f g : Nat → Nat} {s K K' : Nat} (h : Ret f g s K) (h' : Ret f g s K') : K = K' := by
  rcases Nat.lt_trichotomy K K' with c | c | c
  · exact absurd h.back (h'.first K h.pos c)
  · exact c
  · exact absurd h'.back (h.first K' h'.pos c)
/-- Behind how many rounds the curve of s is back. -/
def kk (f g : Nat → Nat) (s : Nat) : Nat → Nat → Nat
  | 0, k => k
  | u + 1, k => if seqP f g s (k + 1) = s then k + 1 else kk f g s u (k + 1)
theorem kk_of {f g : Nat → Nat} {s K : Nat} (h : Ret f g s K) : ∀ u k, k < K → K ≤ k + u → kk f g s u k = K := by
  intro u
  induction u with
  | zero => intro k h1 h2; omega
  | succ u ih =>
    intro k h1 h2
    unfold kk
    split
    · rename_i e
      by_cases c : k + 1 = K
      · exact c
      · exact absurd e (h.first (k + 1) (by omega) (by omega))
    · rename_i e
      by_cases c : k + 1 = K
      · subst c; exact absurd h.back e
      · exact ih (k + 1) (by omega) (by omega)
/-- The curve of s. -/
def curve (f g : Nat → Nat) (s : Nat) : List Nat := walkL f g s (kk f g s 12 0)
theorem curve_of {L : Nat} {f g : Nat → Nat} (hf : Mf L f) (hg : Mf L g) (h12 : L ≤ 12) {s : Nat} (hs : s < L) {K : Nat} (h : Ret f g s K) : curve f g s = walkL f g s K := by
  have := rounds_lt hf hg hs K h.first
  unfold curve; rw [kk_of h 12 0 h.pos (by omega)]
theorem ret_ex {L : Nat} {f g : Nat → Nat} (hf : Mf L f) (hg : Mf L g) {s : Nat} (hs : s < L) : ∀ u k, L ≤ 2 * (k + u) → (∀ j, 0 < j → j ≤ k → seqP f g s j ≠ s) → ∃ K, Ret f g s K := by
  intro u
  induction u with
  | zero =>
    intro k h1 h2
    exfalso
    have := rounds_lt hf hg hs (k + 1) (fun j a b => h2 j a (by omega))
    omega
  | succ u ih =>
    intro k h1 h2
    by_cases e : seqP f g s (k + 1) = s
    · exact ⟨k + 1, by omega, e, fun j a b => h2 j a (by omega)⟩
    · refine ih (k + 1) (by omega) fun j a b => ?_
      by_cases c : j = k + 1
      · subst c; exact e
      · exact h2 j a (by omega)
theorem curve_ret {L : Nat} {f g : Nat → Nat} (hf : Mf L f) (hg : Mf L g) (h12 : L ≤ 12) {s : Nat} (hs : s < L) : ∃ K, Ret f g s K ∧ curve f g s = walkL f g s K := by
  obtain ⟨K, h⟩ := ret_ex hf hg hs L 0 (by omega) (fun j a b => by omega)
  exact ⟨K, h, curve_of hf hg h12 hs h⟩
end Go.Proofs.Ytbpecjfiilkobaa
