/- Sums as sorted lists of keys with factors, over any order: plain mathematics. -/
namespace Go.Proofs.Ytdmgmhjclagnpaa
set_option linter.unusedSectionVars false
set_option linter.unusedVariables false
structure Lin (K : Type) (lt : K → K → Bool) (V : K → Prop) : Prop where
  irr : ∀ x, V x → lt x x = false
  tr : ∀ x y z, V x → V y → V z → lt x y = true → lt y z = true → lt x z = true
  tot : ∀ x y, V x → V y → lt x y = false → lt y x = false → x = y
structure Trm (K T : Type) where
  key : T → K
  fc : T → Int
  mkt : K → Int → T
  key_mk : ∀ d k, key (mkt d k) = d
  fc_mk : ∀ d k, fc (mkt d k) = k
  mkt_key : ∀ t, mkt (key t) (fc t) = t
section
variable {K T : Type} [DecidableEq K] (lt : K → K → Bool) (V : K → Prop) (R : Trm K T)
/-- k, not 0 modulo p, times a key is added to a list. -/
def put (p : Int) (d : K) (k : Int) : List T → List T
  | [] => [R.mkt d k]
  | t :: ts => if lt (R.key t) d then t :: put p d k ts
    else if R.key t = d then (if (R.fc t + k) % p = 0 then ts else R.mkt d ((R.fc t + k) % p) :: ts)
    else R.mkt d k :: t :: ts
/-- k times a key is added. -/
def addL (p : Int) (d : K) (k : Int) (ts : List T) : List T := if k % p = 0 then ts else put lt R p d (k % p) ts
/-- The factor of a key. -/
def fac (d : K) : List T → Int
  | [] => 0
  | t :: ts => if R.key t = d then R.fc t else fac d ts
/-- A sum modulo p: keys in order, factors not 0. -/
structure Good (p : Int) (ts : List T) : Prop where
  val : ∀ t ∈ ts, V (R.key t)
  rng : ∀ t ∈ ts, 1 ≤ R.fc t ∧ R.fc t < p
  srt : ts.Pairwise (fun s t => lt (R.key s) (R.key t) = true)
variable {lt V R}
theorem Good.nil (p : Int) : Good lt V R p [] := ⟨by simp, by simp, List.Pairwise.nil⟩
theorem Good.tail {p : Int} {t : T} {ts : List T} (h : Good lt V R p (t :: ts)) : Good lt V R p ts :=
  ⟨fun x hx => h.val x (List.mem_cons_of_mem _ hx), fun x hx => h.rng x (List.mem_cons_of_mem _ hx), (List.pairwise_cons.1 h.srt).2⟩
theorem fac_none {d : K} {ts : List T} (h : ∀ t ∈ ts, R.key t ≠ d) : fac R d ts = 0 := by
  induction ts with
  | nil => rfl
  | cons t ts ih =>
    rw [fac, if_neg (h t (List.mem_cons_self ..))]
    exact ih (fun x hx => h x (List.mem_cons_of_mem _ hx))
theorem Good.ne (O : Lin K lt V) {p : Int} {t : T} {ts : List T} (h : Good lt V R p (t :: ts)) : ∀ s ∈ ts, R.key s ≠ R.key t := by
  intro s hs e
  have h1 := (List.pairwise_cons.1 h.srt).1 s hs
  rw [e] at h1
  rw [O.irr _ (h.val t (List.mem_cons_self ..))] at h1
  cases h1
theorem fac_mem (O : Lin K lt V) {p : Int} {ts : List T} (h : Good lt V R p ts) {t : T} (ht : t ∈ ts) : fac R (R.key t) ts = R.fc t := by
  induction ts with
  | nil => cases ht
  | cons s ts ih =>
    rcases List.mem_cons.1 ht with rfl | ht
    · rw [fac, if_pos rfl]
    · rw [fac, if_neg (fun e => h.ne O t ht e.symm)]
      exact ih h.tail ht
theorem fac_rng {p : Int} (hp : 0 < p) {ts : List T} (h : Good lt V R p ts) (d : K) : 0 ≤ fac R d ts ∧ fac R d ts < p := by
  induction ts with
  | nil => exact ⟨Int.le_refl _, hp⟩
  | cons t ts ih =>
    rw [fac]
    split
    · have := h.rng t (List.mem_cons_self ..); omega
    · exact ih h.tail
theorem fac_zero {p : Int} {ts : List T} (h : Good lt V R p ts) {d : K} : fac R d ts = 0 ↔ ∀ t ∈ ts, R.key t ≠ d := by
  refine ⟨fun h0 t ht e => ?_, fac_none⟩
  induction ts with
  | nil => cases ht
  | cons s ts ih =>
    rw [fac] at h0
    split at h0
    · have := h.rng s (List.mem_cons_self ..); omega
    · rcases List.mem_cons.1 ht with rfl | ht
      · contradiction
      · exact ih h.tail h0 ht
theorem put_keys {p : Int} {d : K} {k : Int} {ts : List T} : ∀ t ∈ put lt R p d k ts, R.key t = d ∨ ∃ s ∈ ts, R.key t = R.key s := by
  induction ts with
  | nil => intro t ht; left; simp [put] at ht; subst ht; exact R.key_mk _ _
  | cons s ts ih =>
    intro t ht
    rw [put] at ht
    split at ht
    · rcases List.mem_cons.1 ht with rfl | ht
      · exact .inr ⟨t, List.mem_cons_self .., rfl⟩
      · rcases ih t ht with h | ⟨x, hx, h⟩
        · exact .inl h
        · exact .inr ⟨x, List.mem_cons_of_mem _ hx, h⟩
    · split at ht
      · split at ht
        · exact .inr ⟨t, List.mem_cons_of_mem _ ht, rfl⟩
        · rcases List.mem_cons.1 ht with rfl | ht
          · exact .inl (R.key_mk _ _)
          · exact .inr ⟨t, List.mem_cons_of_mem _ ht, rfl⟩
      · rcases List.mem_cons.1 ht with rfl | ht
        · exact .inl (R.key_mk _ _)
        · exact .inr ⟨t, ht, rfl⟩
theorem put_good (O : Lin K lt V) {p : Int} {d : K} {k : Int} (hp : 0 < p) (hd : V d) (h1 : 1 ≤ k) (h2 : k < p) {ts : List T} (h : Good lt V R p ts) : Good lt V R p (put lt R p d k ts) := by
  induction ts with
  | nil =>
    refine ⟨fun t ht => ?_, fun t ht => ?_, by simp [put]⟩
    · simp [put] at ht; subst ht; rw [R.key_mk]; exact hd
    · simp [put] at ht; subst ht; rw [R.fc_mk]; exact ⟨h1, h2⟩
  | cons s ts ih =>
    have hs := h.val s (List.mem_cons_self ..)
    have hh := ih h.tail
    have hpw := List.pairwise_cons.1 h.srt
    rw [put]
    split
    next hlt =>
      refine ⟨fun t ht => ?_, fun t ht => ?_, List.pairwise_cons.2 ⟨fun t ht => ?_, hh.srt⟩⟩
      · rcases List.mem_cons.1 ht with rfl | ht
        · exact hs
        · exact hh.val t ht
      · rcases List.mem_cons.1 ht with rfl | ht
        · exact h.rng t (List.mem_cons_self ..)
        · exact hh.rng t ht
      · rcases put_keys t ht with e | ⟨x, hx, e⟩
        · rw [e]; exact hlt
        · rw [e]; exact hpw.1 x hx
    next hlt =>
      have hlt' : lt (R.key s) d = false := by cases q : lt (R.key s) d <;> simp_all
      split
      next e =>
        split
        · exact h.tail
        next h0 =>
          have a := Int.emod_nonneg (R.fc s + k) (show p ≠ 0 by omega)
          have b := Int.emod_lt_of_pos (R.fc s + k) hp
          refine ⟨fun t ht => ?_, fun t ht => ?_, List.pairwise_cons.2 ⟨fun t ht => ?_, hpw.2⟩⟩
          · rcases List.mem_cons.1 ht with rfl | ht
            · rw [R.key_mk]; exact hd
            · exact h.tail.val t ht
          · rcases List.mem_cons.1 ht with rfl | ht
            · rw [R.fc_mk]; omega
            · exact h.tail.rng t ht
          · rw [R.key_mk, ← e]; exact hpw.1 t ht
      next e =>
        have hds : lt d (R.key s) = true := by
          cases q : lt d (R.key s) with
          | true => rfl
          | false => exact absurd (O.tot _ _ hs hd hlt' q) e
        refine ⟨fun t ht => ?_, fun t ht => ?_, List.pairwise_cons.2 ⟨fun t ht => ?_, h.srt⟩⟩
        · rcases List.mem_cons.1 ht with rfl | ht
          · rw [R.key_mk]; exact hd
          · exact h.val t ht
        · rcases List.mem_cons.1 ht with rfl | ht
          · rw [R.fc_mk]; exact ⟨h1, h2⟩
          · exact h.rng t ht
        · rw [R.key_mk]
          rcases List.mem_cons.1 ht with rfl | ht
          · exact hds
          · exact O.tr _ _ _ hd hs (h.tail.val t ht) hds (hpw.1 t ht)
theorem fac_put (O : Lin K lt V) {p : Int} {d : K} {k : Int} (hp : 0 < p) (hd : V d) (h1 : 1 ≤ k) (h2 : k < p) {ts : List T} (h : Good lt V R p ts) (e : K) :
    fac R e (put lt R p d k ts) = if e = d then (fac R d ts + k) % p else fac R e ts := by
  induction ts with
  | nil =>
    simp only [put, fac, R.key_mk, R.fc_mk]
    by_cases q : e = d
    · subst q; rw [if_pos rfl, if_pos rfl, Int.zero_add, Int.emod_eq_of_lt (by omega) h2]
    · rw [if_neg (fun x => q x.symm), if_neg q]
  | cons s ts ih =>
    have hs := h.val s (List.mem_cons_self ..)
    have hpw := List.pairwise_cons.1 h.srt
    have hh := ih h.tail
    have hr := h.rng s (List.mem_cons_self ..)
    rw [put]
    split
    next hlt =>
      have hne : R.key s ≠ d := fun q => by rw [q, O.irr _ hd] at hlt; cases hlt
      by_cases q : e = d
      · subst q; rw [fac, if_neg hne, hh, if_pos rfl, if_pos rfl, fac, if_neg hne]
      · rw [fac, hh, if_neg q, if_neg q, fac]
    next hlt =>
      have hlt' : lt (R.key s) d = false := by cases q : lt (R.key s) d <;> simp_all
      split
      next q0 =>
        have hno : fac R d ts = 0 := fac_none (fun t ht => by rw [← q0]; exact h.ne O t ht)
        split
        next h0 =>
          by_cases q : e = d
          · subst q; rw [hno, if_pos rfl, fac, if_pos q0, h0]
          · rw [if_neg q, fac, if_neg (by rw [q0]; exact fun x => q x.symm)]
        next h0 =>
          rw [fac, R.key_mk, R.fc_mk]
          by_cases q : e = d
          · subst q; rw [if_pos rfl, if_pos rfl, fac, if_pos q0]
          · rw [if_neg (fun x => q x.symm), if_neg q, fac, if_neg (by rw [q0]; exact fun x => q x.symm)]
      next q0 =>
        have hds : lt d (R.key s) = true := by
          cases q : lt d (R.key s) with
          | true => rfl
          | false => exact absurd (O.tot _ _ hs hd hlt' q) q0
        have hno : fac R d (s :: ts) = 0 := fac_none (fun t ht x => by
          rcases List.mem_cons.1 ht with rfl | ht
          · exact q0 x
          · have := O.tr _ _ _ hd hs (h.tail.val t ht) hds (hpw.1 t ht)
            rw [x, O.irr _ hd] at this; cases this)
        rw [fac, R.key_mk, R.fc_mk]
        by_cases q : e = d
        · subst q; rw [if_pos rfl, if_pos rfl, hno, Int.zero_add, Int.emod_eq_of_lt (by omega) h2]
        · rw [if_neg (fun x => q x.symm), if_neg q]
theorem add_good (O : Lin K lt V) {p : Int} {d : K} {k : Int} (hp : 0 < p) (hd : V d) {ts : List T} (h : Good lt V R p ts) : Good lt V R p (addL lt R p d k ts) := by
  unfold addL
  have a := Int.emod_nonneg k (show p ≠ 0 by omega)
  have b := Int.emod_lt_of_pos k hp
  split
  · exact h
  · exact put_good O hp hd (by omega) b h
theorem fac_add (O : Lin K lt V) {p : Int} {d : K} {k : Int} (hp : 0 < p) (hd : V d) {ts : List T} (h : Good lt V R p ts) (e : K) :
    fac R e (addL lt R p d k ts) = if e = d then (fac R d ts + k) % p else fac R e ts := by
  have a := Int.emod_nonneg k (show p ≠ 0 by omega)
  have b := Int.emod_lt_of_pos k hp
  have r := fac_rng hp h d
  unfold addL
  split
  next h0 =>
    split
    next q => subst q; rw [Int.add_emod, h0, Int.add_zero, Int.emod_emod, Int.emod_eq_of_lt r.1 r.2]
    next => rfl
  next h0 =>
    rw [fac_put O hp hd (by omega) b h]
    split
    · rw [Int.add_emod_emod]
    · rfl
theorem put_len {p : Int} {d : K} {k : Int} : ∀ ts : List T, (put lt R p d k ts).length ≤ ts.length + 1
  | [] => by simp [put]
  | t :: ts => by
    have : (put lt R p d k ts).length ≤ ts.length + 1 := put_len ts
    rw [put]
    split
    · simp; omega
    · split
      · split
        · simp; omega
        · simp
      · simp
theorem add_len {p : Int} {d : K} {k : Int} (ts : List T) : (addL lt R p d k ts).length ≤ ts.length + 1 := by
  unfold addL
  split
  · omega
  · exact put_len ts
/-- Where a key is put: behind the first c entries. -/
def tailP (p : Int) (d : K) (k : Int) : List T → List T
  | [] => [R.mkt d k]
  | t :: ts => if R.key t = d then (if (R.fc t + k) % p = 0 then ts else R.mkt d ((R.fc t + k) % p) :: ts) else R.mkt d k :: t :: ts
theorem put_cut {p : Int} {d : K} {k : Int} : ∀ (c : Nat) (ts : List T), c ≤ ts.length → (∀ t ∈ ts.take c, lt (R.key t) d = true) → (∀ t ∈ ts.drop c, lt (R.key t) d = false) → put lt R p d k ts = ts.take c ++ tailP (R := R) p d k (ts.drop c)
  | 0, [], _, _, _ => rfl
  | 0, t :: ts, _, _, h2 => by
    have : lt (R.key t) d = false := h2 t (by simp)
    rw [put, if_neg (by rw [this]; simp)]
    rfl
  | c + 1, [], h, _, _ => by simp at h
  | c + 1, t :: ts, h, h1, h2 => by
    have a : lt (R.key t) d = true := h1 t (by simp)
    have : put lt R p d k ts = ts.take c ++ tailP (R := R) p d k (ts.drop c) := put_cut c ts (by simpa using h) (fun x hx => h1 x (by simp [hx])) (fun x hx => h2 x (by simpa using hx))
    rw [put, if_pos a, this]
    rfl
/-- A sum is told by its factors. -/
theorem good_unique (O : Lin K lt V) {p : Int} : ∀ {a b : List T}, Good lt V R p a → Good lt V R p b → (∀ d, fac R d a = fac R d b) → a = b
  | [], [], _, _, _ => rfl
  | [], t :: b, ha, hb, h => by
    have := h (R.key t)
    rw [fac, fac, if_pos rfl] at this
    have := hb.rng t (List.mem_cons_self ..)
    omega
  | s :: a, [], ha, hb, h => by
    have := h (R.key s)
    rw [fac, fac, if_pos rfl] at this
    have := ha.rng s (List.mem_cons_self ..)
    omega
  | s :: a, t :: b, ha, hb, h => by
    have vs := ha.val s (List.mem_cons_self ..)
    have vt := hb.val t (List.mem_cons_self ..)
    have ra := ha.rng s (List.mem_cons_self ..)
    have rb := hb.rng t (List.mem_cons_self ..)
    have ks : R.key s = R.key t := by
      cases q : lt (R.key s) (R.key t) with
      | true =>
        exfalso
        have h1 := h (R.key s)
        have : fac R (R.key s) (t :: b) = 0 := fac_none (fun x hx e => by
          rcases List.mem_cons.1 hx with rfl | hx
          · rw [e, O.irr _ vs] at q; cases q
          · have := O.tr _ _ _ vs vt (hb.tail.val x hx) q ((List.pairwise_cons.1 hb.srt).1 x hx)
            rw [e, O.irr _ vs] at this; cases this)
        rw [this, fac, if_pos rfl] at h1
        omega
      | false =>
        cases q' : lt (R.key t) (R.key s) with
        | true =>
          exfalso
          have h1 := h (R.key t)
          have : fac R (R.key t) (s :: a) = 0 := fac_none (fun x hx e => by
            rcases List.mem_cons.1 hx with rfl | hx
            · rw [e, O.irr _ vt] at q'; cases q'
            · have := O.tr _ _ _ vt vs (ha.tail.val x hx) q' ((List.pairwise_cons.1 ha.srt).1 x hx)
              rw [e, O.irr _ vt] at this; cases this)
          rw [this, fac, if_pos rfl] at h1
          omega
        | false => exact O.tot _ _ vs vt q q'
    have fs : R.fc s = R.fc t := by
      have h1 := h (R.key s)
      rw [fac, if_pos rfl, fac, if_pos ks.symm] at h1
      exact h1
    have e : s = t := by rw [← R.mkt_key s, ← R.mkt_key t, ks, fs]
    subst e
    have : a = b := good_unique O ha.tail hb.tail (fun d => by
      by_cases q : R.key s = d
      · subst q
        rw [fac_none (ha.ne O), fac_none (hb.ne O)]
      · have := h d
        rw [fac, fac, if_neg q, if_neg q] at this
        exact this)
    rw [this]
end
end Go.Proofs.Ytdmgmhjclagnpaa
