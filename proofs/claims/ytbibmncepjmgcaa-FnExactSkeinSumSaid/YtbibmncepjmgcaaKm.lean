/- Slices of strings of the call's own, from the nil slice on; the model's list of texts of brackets. Plain mathematics: how many diagrams with blobs there are. CountBlobbed, and the law. The model's list of all diagrams. DiagramOfNumber, and the law. NumberOfDiagram: the model's number is a text's place in the list. -/
import Derived.Test.YtbibmncepjmgcaaKe
import Derived.Test.YtbibmncepjmgcaaKa
import Derived.Test.YtbibmncepjmgcaaKl
import Derived.Test.YtbibmncepjmgcaaKf
import Derived.Test.YtbibmncepjmgcaaKc
import Derived.Deep.CutRange
namespace Go.Proofs.Ytbibmncepjmgcaa
open Go.RowKit Go.Lib
set_option linter.unusedVariables false
set_option linter.unusedSimpArgs false
def RowS (w : World) (base : Nat) (v : Value) (xs : List ByteArray) : Prop := w.ownsRow base 9 1 v xs.length (xs.map Value.string)
theorem RowS.kept {w w' : World} {base : Nat} {v : Value} {xs : List ByteArray} (h : RowS w base v xs) (hs : ∀ g, v.ownBlock = some g → w'.heap[g]? = w.heap[g]?) : RowS w' base v xs := by
  obtain ⟨h1, h2 | ⟨g, cap, cur, rfl, hg, hh, hn, hcap, hsz, htake⟩⟩ := h
  · exact ⟨h1, .inl h2⟩
  · exact ⟨h1, .inr ⟨g, cap, cur, rfl, hg, (hs g rfl).trans hh, hn, hcap, hsz, htake⟩⟩
theorem RowS.own {w : World} {base : Nat} {v : Value} {xs : List ByteArray} (h : RowS w base v xs) : ∀ g, v.ownBlock = some g → base ≤ g ∧ g < w.heap.size ∧ ∃ cs, Own w g cs 9 := by
  intro g e
  obtain ⟨h1, ⟨rfl, _⟩ | ⟨g', cap, cur, rfl, hg, hh, hn, hcap, hsz, htake⟩⟩ := h
  · cases e
  · have hh' : Own w g' cur 9 := hh
    cases e
    exact ⟨hg, hh'.lt, cur, hh'⟩
theorem RowS.alloc {w : World} {base : Nat} {v : Value} {xs : List ByteArray} (h : RowS w base v xs) (o : Obj) : RowS (w.alloc o) base v xs :=
  h.kept (fun g e => by obtain ⟨_, _, cs, ho⟩ := h.own g e; exact (ho.alloc o).trans ho.symm)
theorem RowS.below {w w' : World} {base B : Nat} {v : Value} {xs : List ByteArray} (h : RowS w base v xs) (hb : Below B w w') (hB : w.heap.size ≤ B) : RowS w' base v xs :=
  h.kept (fun g e => by obtain ⟨_, hl, cs, ho⟩ := h.own g e; exact (ho.below hb (Nat.lt_of_lt_of_le hl hB)).trans ho.symm)
theorem RowS.nil (w : World) (base : Nat) : RowS w base (.slice none 0 0) [] := ⟨rfl, .inl ⟨rfl, rfl⟩⟩
theorem RowS.grown {w w' : World} {base g : Nat} {v : Value} {xs : List ByteArray} (h : RowS w base v xs) (hg : w.grownBy w' (some g)) (hne : ∀ k, v.ownBlock = some k → k ≠ g) : RowS w' base v xs :=
  h.kept (fun k e => hg.block k (h.own k e).2.1 (fun he => hne k e (by simpa using he)))
theorem RowS.at {w : World} {base : Nat} {v : Value} {xs : List ByteArray} (h : RowS w base v xs) (h1 : 0 < xs.length) :
    ∃ g cap, v = .slice (some ⟨g, 0, none⟩) xs.length cap ∧ base ≤ g ∧ g < w.heap.size := by
  obtain ⟨_, ⟨rfl, e⟩ | ⟨g, cap, cur, rfl, hg, hh, hn, hcap, hsz, htake⟩⟩ := h
  · omega
  · have hh' : Own w g cur 9 := hh
    exact ⟨g, cap, rfl, hg, hh'.lt⟩
theorem RowS.read {w : World} {base g cap : Nat} {xs : List ByteArray} (h : RowS w base (.slice (some ⟨g, 0, none⟩) xs.length cap) xs) (k : Nat) (hk : k < xs.length) : w.cell? ⟨g, k, none⟩ = some (.string (xs.getD k ByteArray.empty)) := by
  obtain ⟨_, ⟨e, _⟩ | ⟨g', cap', cur, e, hg, hh, hn, hcap, hsz, htake⟩⟩ := h
  · cases e
  · cases e
    have hh' : Own w g cur 9 := hh
    rw [hh'.cell]
    have e : (cur.toList.take (xs.length * 1))[k]? = (xs.map (Value.string))[k]? := by rw [htake]
    rw [List.getElem?_take_of_lt (by omega)] at e
    simpa [hk] using e
theorem infoStrR : (Try.prog.info? 9).map (fun i => (i.zero, i.size, i.bytes)) = some (some (.string ByteArray.empty), 1, 16) := by kernel_rfl
def txs : Nat → List UInt8 → Nat → Nat → List (List UInt8)
  | 0, _, _, _ => []
  | f + 1, t, o, r => if o = 0 ∧ r = 0 then [t] else (if 0 < r then txs f (t ++ [40]) (o + 1) (r - 1) else []) ++ (if 0 < o then txs f (t ++ [41]) (o - 1) r else [])
theorem txs_end (f : Nat) (t : List UInt8) : txs (f + 1) t 0 0 = [t] := by rw [txs, if_pos ⟨rfl, rfl⟩]
theorem txs_step (f : Nat) (t : List UInt8) (o r : Nat) (h : ¬ (o = 0 ∧ r = 0)) : txs (f + 1) t o r = (if 0 < r then txs f (t ++ [40]) (o + 1) (r - 1) else []) ++ (if 0 < o then txs f (t ++ [41]) (o - 1) r else []) := by rw [txs, if_neg h]
/-- Both list the same texts. -/
theorem txs_dts (f : Nat) : ∀ (t : List UInt8) (o r : Nat), f = 2 * r + o + 1 → txs f t o r = dts (2 * r + o) o t := by
  induction f with
  | zero => intro t o r h; omega
  | succ f ih =>
    intro t o r h
    by_cases h0 : o = 0 ∧ r = 0
    · obtain ⟨rfl, rfl⟩ := h0
      rw [txs_end]; rfl
    · rw [txs_step _ _ _ _ h0]
      obtain ⟨q, hq⟩ : ∃ q, 2 * r + o = q + 1 := ⟨2 * r + o - 1, by omega⟩
      rw [hq, dts_step]
      congr 1
      · by_cases hr : 0 < r
        · rw [if_pos hr, if_pos (by omega), ih _ _ _ (by omega)]
          congr 1; omega
        · rw [if_neg hr, if_neg (by omega)]
      · by_cases ho : 0 < o
        · rw [if_pos ho, if_pos ho, ih _ _ _ (by omega)]
          congr 1; omega
        · rw [if_neg ho, if_neg ho]
theorem txs_all (n : Nat) : txs (2 * n + 1) [] 0 n = dts (2 * n) 0 [] := txs_dts _ _ _ _ (by omega)
def bsv (x : List UInt8) : ByteArray := ⟨x.toArray⟩
def bsl (L : List (List UInt8)) : List ByteArray := L.map bsv
theorem bsl_app (A B : List (List UInt8)) : bsl (A ++ B) = bsl A ++ bsl B := by simp [bsl]
theorem bsv_app (t : List UInt8) (c : UInt8) : bsv t ++ ⟨#[c]⟩ = bsv (t ++ [c]) := by
  apply ByteArray.ext
  simp [bsv]
theorem bsv_size (t : List UInt8) : (bsv t).size = t.length := by simp [bsv, ByteArray.size]
def TxPost (base : Nat) (xs : List ByteArray) (L : List (List UInt8)) (w : World) (e : Ending) (w' : World) : Prop :=
  ∃ v', e = .returned v' ∧ RowS w' base v' (xs ++ bsl L) ∧ Below base w w'
end Go.Proofs.Ytbibmncepjmgcaa
namespace Go.Proofs.Ytbibmncepjmgcaa
open Go.RowKit
set_option linter.unusedVariables false
set_option linter.unusedSimpArgs false
theorem joinL_bytesC {ms : List Int} (h : Bytes ms) (i j : Int) (hi : 0 ≤ i ∧ i ≤ 255) (hj : 0 ≤ j ∧ j ≤ 255) : Bytes (joinL ms i j) := by
  intro x hx
  unfold joinL at hx
  rcases List.mem_or_eq_of_mem_set hx with hx | rfl
  · rcases List.mem_or_eq_of_mem_set hx with hx | rfl
    · exact h x hx
    · exact hj
  · exact hi
theorem pst_bytesC (n : Int) (l : List UInt8) (h0 : 0 ≤ n) (h8 : n ≤ 8) (k : Nat) (hk : (k : Int) ≤ 2 * n) (ms o : List Int) (h : pst n l k = some (ms, o)) : Bytes ms := by
  induction k generalizing ms o with
  | zero =>
    simp [pst] at h; obtain ⟨rfl, rfl⟩ := h
    intro x hx; unfold zeros at hx; rw [List.mem_replicate] at hx; omega
  | succ k ih =>
    unfold pst at h
    cases hp : pst n l k with
    | none => rw [hp] at h; simp at h
    | some q =>
      obtain ⟨ms', o'⟩ := q
      have h1 := ih (by omega) ms' o' hp
      have h2 := (pst_len _ _ _ _ _ hp).2.2
      rw [hp] at h
      simp only at h
      split at h
      · simp at h; obtain ⟨rfl, rfl⟩ := h; exact h1
      · split at h
        · cases hl : o'.getLast? with
          | none => rw [hl] at h; simp at h
          | some y =>
            rw [hl] at h; simp at h; obtain ⟨rfl, rfl⟩ := h
            have hy := h2 y (List.mem_of_getLast? hl)
            have a := pl_bd n y h8 hy.1 (by omega)
            have b := pl_bd n k h8 (by omega) (by omega)
            exact joinL_bytesC h1 _ _ (by omega) (by omega)
        · simp at h
theorem parse_bytesC (l : List UInt8) (n : Int) (ms : List Int) (h : parse l = some (n, ms)) : Bytes ms := by
  unfold parse at h
  split at h
  · rename_i hb
    split at h
    · rename_i M hp
      simp at h; obtain ⟨e, rfl⟩ := h
      exact pst_bytesC _ _ (by omega) hb.2.2 _ (by omega) _ _ hp
    · simp at h
  · simp at h
/-- How many parts a text has, and how many brackets are open at its end. -/
def stF (q : Nat × Int) (x : UInt8) : Nat × Int := if q.2 + stp (x.toNat : Nat) = 0 then (q.1 + 1, 0) else (q.1, q.2 + stp (x.toNat : Nat))
def ptF (t : List UInt8) : Nat × Int := t.foldl stF (0, 0)
theorem ptF_app (t : List UInt8) (x : UInt8) : ptF (t ++ [x]) = stF (ptF t) x := by unfold ptF; rw [List.foldl_append]; rfl
theorem ptF_cut (t : List UInt8) (k : Nat) (hk : k ≤ t.length) : ptF (t.take k) = ((cutP (LI t) k).1.length, (cutP (LI t) k).2.2) := by
  induction k with
  | zero => rfl
  | succ k ih =>
    have hlt : k < t.length := by omega
    have e : t.take (k + 1) = t.take k ++ [t[k]] := by rw [List.take_add_one, List.getElem?_eq_getElem hlt]; rfl
    have e2 : (LI t).getD k 0 = ((t[k].toNat : Nat) : Int) := by
      unfold LI
      rw [List.getD_eq_getElem?_getD, List.getElem?_map, List.getElem?_eq_getElem hlt]; rfl
    rw [e, ptF_app, ih (by omega), stF, cutP, e2]
    simp only
    split <;> simp
/-- What the texts that begin with o open brackets count, r letters being left. -/
def cS : Nat → Nat → Nat
  | 0, _ => 1
  | r + 1, o => (if o < r + 1 then cS r (o + 1) else 0) + (if 0 < o then (if o = 1 then 2 else 1) * cS r (o - 1) else 0)
theorem sum_dts (r : Nat) : ∀ (o : Nat) (t : List UInt8) (c : Nat), ptF t = (c, (o : Int)) → ((dts r o t).map (fun t => 2 ^ (ptF t).1)).sum = 2 ^ c * cS r o := by
  induction r with
  | zero => intro o t c h; simp [dts, cS, h]
  | succ r ih =>
    intro o t c h
    have hA : ((if o < r + 1 then dts r (o + 1) (t ++ [40]) else []).map (fun t => 2 ^ (ptF t).1)).sum = 2 ^ c * (if o < r + 1 then cS r (o + 1) else 0) := by
      split
      · refine ih (o + 1) _ c ?_
        rw [ptF_app, h, stF]
        have : stp (((40 : UInt8).toNat : Nat) : Int) = 1 := by decide
        rw [this]
        simp only
        rw [if_neg (by omega)]
        simp
      · simp
    have hB : ((if 0 < o then dts r (o - 1) (t ++ [41]) else []).map (fun t => 2 ^ (ptF t).1)).sum = 2 ^ c * (if 0 < o then (if o = 1 then 2 else 1) * cS r (o - 1) else 0) := by
      split
      · rename_i ho
        have h41 : stp (((41 : UInt8).toNat : Nat) : Int) = -1 := by decide
        by_cases e : o = 1
        · subst e
          rw [if_pos rfl, ih 0 _ (c + 1) (by rw [ptF_app, h, stF, h41]; rfl), Nat.pow_succ, Nat.mul_assoc]
        · rw [if_neg e, ih (o - 1) _ c (by rw [ptF_app, h, stF, h41]; simp only; rw [if_neg (by omega)]; exact Prod.ext rfl (by simp only; omega)), Nat.one_mul]
      · simp
    rw [dts_step, List.map_append, List.sum_append, hA, hB, cS, Nat.mul_add]
theorem dts_mem (r : Nat) : ∀ (o : Nat) (t x : List UInt8), x ∈ dts r o t → x.length = t.length + r := by
  induction r with
  | zero => intro o t x h; simp [dts] at h; subst h; rfl
  | succ r ih =>
    intro o t x h
    rw [dts_step, List.mem_append] at h
    rcases h with h | h
    · split at h
      · have := ih _ _ _ h; simp at this; omega
      · simp at h
    · split at h
      · have := ih _ _ _ h; simp at this; omega
      · simp at h
def readB (n : Nat) (t : List UInt8) : Bool := match parse t with | some q => q.1 == (n : Int) | none => false
set_option maxRecDepth 100000 in
theorem dts_read (n : Nat) (h1 : 1 ≤ n) (h8 : n ≤ 8) : (dts (2 * n) 0 []).all (readB n) = true := by
  have h : n = 1 ∨ n = 2 ∨ n = 3 ∨ n = 4 ∨ n = 5 ∨ n = 6 ∨ n = 7 ∨ n = 8 := by omega
  rcases h with rfl | rfl | rfl | rfl | rfl | rfl | rfl | rfl <;> decide +kernel
/-- What every diagram of the list is. -/
structure Dgm (n : Int) (d : DgR) : Prop where
  size : d.1 = n
  len : d.2.length = 16
  bytes : Bytes d.2
  isD : isD d.1 d.2 = true
theorem dgm_of (n : Nat) (h1 : 1 ≤ n) (h8 : n ≤ 8) (t : List UInt8) (h : t ∈ dts (2 * n) 0 []) : Dgm n (pD t) ∧ parse t = some (pD t) := by
  have hr := List.all_eq_true.1 (dts_read n h1 h8) t h
  unfold readB at hr
  unfold pD
  cases hp : parse t with
  | none => rw [hp] at hr; simp at hr
  | some q =>
    obtain ⟨m, ms⟩ := q
    rw [hp] at hr
    simp only [beq_iff_eq] at hr
    have hl := parse_len t m ms hp
    have hb := parse_bytesC t m ms hp
    exact ⟨⟨hr, hl, hb, (isD_iff m ms hl hb).2 (parse_isS t m ms hp)⟩, rfl⟩
/-- How many lines of such a diagram are open. -/
theorem opl_pt (n : Nat) (h1 : 1 ≤ n) (h8 : n ≤ 8) (t : List UInt8) (h : t ∈ dts (2 * n) 0 []) : (opl (pD t).1 (pD t).2).length = (ptF t).1 := by
  obtain ⟨hd, hp⟩ := dgm_of n h1 h8 t h
  have hl := dts_mem _ _ _ _ h
  have hn := net_of _ _ hd.len hd.bytes hd.isD
  rcases hq : pD t with ⟨m, ms⟩
  rw [hq] at hp hd hn
  have hm : m = (n : Int) := hd.size
  subst hm
  have e : LT n ms = LI t := by
    apply List.ext_getElem?
    intro k
    by_cases hk : k < 2 * n
    · have a := LT_get (n : Int) ms k (by omega)
      have b := parse_get t (n : Int) ms hp k (by omega)
      have la : k < (LT n ms).length := by rw [LT_len _ _ (by omega)]; omega
      have lb : k < (LI t).length := by rw [LI_len, hl]; simp; exact hk
      rw [List.getD_eq_getElem?_getD, List.getElem?_eq_getElem la] at a
      rw [List.getElem?_eq_getElem la]
      have c : (LI t)[k]? = some (((if (k : Int) < qq n ms k then (40 : UInt8) else 41).toNat : Nat) : Int) := by
        unfold LI; rw [List.getElem?_map, b]; rfl
      rw [c]
      simp only [Option.getD_some] at a
      rw [a]
      split <;> rfl
    · rw [List.getElem?_eq_none (by rw [LT_len _ _ (by omega)]; omega), List.getElem?_eq_none (by rw [LI_len, hl]; simp; omega)]
  have h2 : (opl n ms).length = (cutP (LT n ms) (2 * (n : Int)).toNat).1.length := by rw [← opl_cut hn, List.length_map]
  have e3 : (2 * (n : Int)).toNat = t.length := by rw [hl, List.length_nil]; omega
  have h4 := ptF_cut t t.length (Nat.le_refl _)
  rw [List.take_length] at h4
  rw [h2, e, e3, h4]
/-- What the first k diagrams count. -/
def gS (ds : List DgR) (k : Nat) : Nat := ((ds.take k).map (fun d => 2 ^ (opl d.1 d.2).length)).sum
theorem gS_succ (ds : List DgR) (k : Nat) (h : k < ds.length) : gS ds (k + 1) = gS ds k + 2 ^ (opl (ds.getD k (0, zeros)).1 (ds.getD k (0, zeros)).2).length := by
  unfold gS
  rw [List.take_add_one, List.getElem?_eq_getElem h, List.map_append, List.sum_append, List.getD_eq_getElem?_getD, List.getElem?_eq_getElem h]
  simp
theorem gS_all (n : Nat) (h1 : 1 ≤ n) (h8 : n ≤ 8) : gS (allD n) (allD n).length = cS (2 * n) 0 := by
  unfold gS
  rw [List.take_length]
  unfold allD
  rw [List.map_map]
  have := sum_dts (2 * n) 0 [] 0 rfl
  rw [Nat.pow_zero, Nat.one_mul] at this
  rw [← this]
  congr 1
  apply List.map_congr_left
  intro t ht
  simp only [Function.comp_apply]
  rw [opl_pt n h1 h8 t ht]
theorem allD_len (n : Nat) (h1 : 1 ≤ n) (h8 : n ≤ 8) : (allD n).length ≤ 1430 := by unfold allD; rw [List.length_map]; exact dts_len n h1 h8
theorem allD_get (n : Nat) (h1 : 1 ≤ n) (h8 : n ≤ 8) (k : Nat) (h : k < (allD n).length) : Dgm n ((allD n).getD k (0, zeros)) := by
  rw [List.getD_eq_getElem?_getD, List.getElem?_eq_getElem h]
  have hm := List.getElem_mem h
  unfold allD at hm
  rw [List.mem_map] at hm
  obtain ⟨t, ht, he⟩ := hm
  have := (dgm_of n h1 h8 t ht).1
  rw [he] at this
  exact this
theorem opl_le (n : Int) (ms : List Int) (h8 : n ≤ 8) : (opl n ms).length ≤ 16 := by
  unfold opl
  rw [List.length_map]
  unfold starts
  have := List.length_filter_le (fun s => (opens n ms s).isEmpty) (List.range (2 * n).toNat)
  rw [List.length_range] at this
  omega
theorem gS_bd (n : Nat) (h1 : 1 ≤ n) (h8 : n ≤ 8) (k : Nat) (h : k ≤ (allD n).length) : gS (allD n) k ≤ 65536 * k := by
  induction k with
  | zero => simp [gS]
  | succ k ih =>
    rw [gS_succ _ _ (by omega)]
    have hd := allD_get n h1 h8 k (by omega)
    have : 2 ^ (opl ((allD n).getD k (0, zeros)).1 ((allD n).getD k (0, zeros)).2).length ≤ 2 ^ 16 := Nat.pow_le_pow_right (by omega) (opl_le _ _ (by rw [hd.size]; omega))
    have := ih (by omega)
    omega
end Go.Proofs.Ytbibmncepjmgcaa
namespace Go.Proofs.Ytbibmncepjmgcaa
open Go.RowKit Go.Lib
set_option linter.unusedVariables false
set_option linter.unusedSimpArgs false
/-- A whole diagram is read out of such a slice. -/
theorem RowD.at {w : World} {base : Nat} {v : Value} {ds : List DgR} (h : RowD w base v ds) (h16 : LD16 ds) (h1 : 0 < ds.length) :
    ∃ g cap, v = .slice (some ⟨g, 0, none⟩) ds.length cap ∧ base ≤ g ∧ g < w.heap.size := by
  rcases h.shape h16 with ⟨_, e⟩ | ⟨g, cap, e, hb, hl, _⟩
  · rw [e] at h1; simp at h1
  · exact ⟨g, cap, e, hb, hl⟩
theorem RowD.read {w : World} {base g cap : Nat} {ds : List DgR} (h : RowD w base (.slice (some ⟨g, 0, none⟩) ds.length cap) ds) (h16 : LD16 ds) (k : Nat) (hk : k < ds.length) :
    ∀ j u, (dcells (ds.getD k (0, zeros)).1 (ds.getD k (0, zeros)).2).toList[j]? = some u → w.cell? ((⟨g, k * 17, none⟩ : Addr).add j) = some u := by
  rcases h.shape h16 with ⟨e, _⟩ | ⟨g', cap', e, hb, hl, hc⟩
  · cases e
  · cases e
    intro j u hu
    have := hc k hk j u hu
    rwa [Addr.add_mid, Nat.zero_add] at this
theorem allD_pos (n : Nat) (h1 : 1 ≤ n) (h8 : n ≤ 8) : 0 < (allD n).length := by
  have h : n = 1 ∨ n = 2 ∨ n = 3 ∨ n = 4 ∨ n = 5 ∨ n = 6 ∨ n = 7 ∨ n = 8 := by omega
  unfold allD
  rw [List.length_map]
  rcases h with rfl | rfl | rfl | rfl | rfl | rfl | rfl | rfl <;> decide +kernel
theorem allD_16 (n : Nat) : LD16 (allD n) := pD_LD _
/-- The model's product. -/
def bC (n : Nat) : Nat → Int
  | 0 => 1
  | k + 1 => bC n k * ((n : Int) + ((k : Int) + 1)) / ((k : Int) + 1)
theorem bC_bd (n : Nat) (h1 : 1 ≤ n) (h8 : n ≤ 8) (k : Nat) (hk : k ≤ n) : 1 ≤ bC n k ∧ bC n k ≤ 100000 := by
  have h : n = 1 ∨ n = 2 ∨ n = 3 ∨ n = 4 ∨ n = 5 ∨ n = 6 ∨ n = 7 ∨ n = 8 := by omega
  have h2 : k = 0 ∨ k = 1 ∨ k = 2 ∨ k = 3 ∨ k = 4 ∨ k = 5 ∨ k = 6 ∨ k = 7 ∨ k = 8 := by omega
  rcases h with rfl | rfl | rfl | rfl | rfl | rfl | rfl | rfl <;> rcases h2 with rfl | rfl | rfl | rfl | rfl | rfl | rfl | rfl | rfl <;> first | omega | decide
theorem bC_all (n : Nat) (h1 : 1 ≤ n) (h8 : n ≤ 8) : bC n n = (cS (2 * n) 0 : Nat) := by
  have h : n = 1 ∨ n = 2 ∨ n = 3 ∨ n = 4 ∨ n = 5 ∨ n = 6 ∨ n = 7 ∨ n = 8 := by omega
  rcases h with rfl | rfl | rfl | rfl | rfl | rfl | rfl | rfl <;> decide +kernel
end Go.Proofs.Ytbibmncepjmgcaa
namespace Go.Proofs.Ytbibmncepjmgcaa
open Go.RowKit Go.Lib
set_option linter.unusedVariables false
set_option linter.unusedSimpArgs false
theorem mk0d : ∀ w : World, (Instr.buildSlice 132 0 #[]).run Try.prog w = .ok (.slice (some ⟨w.heap.size, 0, none⟩) 0 0) (w.alloc (.cells #[] 53)) := by
  intro w; kernel_rfl
theorem RowD.new0 (w : World) (base n : Nat) (hb : base ≤ w.heap.size) (hw : w.heap.size = n) : RowD (w.alloc (.cells #[] 53)) base (.slice (some ⟨n, 0, none⟩) 0 0) [] := by
  subst hw
  exact ⟨rfl, .inr ⟨_, 0, #[], rfl, hb, Own.new _ _ _, Nat.le_refl _, by unfold maxLen; omega, rfl, rfl⟩⟩
theorem rowS_ne_rowD {w : World} {base base' : Nat} {u v : Value} {xs : List ByteArray} {ds : List DgR} (hb : RowS w base' u xs) (hr : RowD w base v ds) : ∀ k j, u.ownBlock = some k → v.ownBlock = some j → k ≠ j := by
  intro k j h1 h2 e
  subst e
  obtain ⟨_, _, cs, ho⟩ := hr.own k h2
  obtain ⟨_, _, cu, hu⟩ := hb.own k h1
  have := (show w.heap[k]? = _ from ho).symm.trans hu
  simp at this
end Go.Proofs.Ytbibmncepjmgcaa
namespace Go.Proofs.Ytbibmncepjmgcaa
open Go.RowKit Go.Lib
set_option linter.unusedVariables false
set_option linter.unusedSimpArgs false
/-- How many texts there are to go on with. -/
def wy : Nat → Nat → Nat
  | 0, _ => 1
  | f + 1, o => (if o < f + 1 then wy f (o + 1) else 0) + (if 0 < o then wy f (o - 1) else 0)
theorem dts_wy (f : Nat) : ∀ (o : Nat) (t : List UInt8), (dts f o t).length = wy f o := by
  induction f with
  | zero => intro o t; rfl
  | succ f ih =>
    intro o t
    rw [dts_step, wy, List.length_append]
    congr 1
    · split
      · exact ih _ _
      · rfl
    · split
      · exact ih _ _
      · rfl
theorem wy_self (o : Nat) : wy o o = 1 := by
  induction o with
  | zero => rfl
  | succ o ih => rw [wy, if_neg (by omega), if_pos (by omega), Nat.add_sub_cancel, ih]
theorem wy_bd (f : Nat) : ∀ o, wy f o ≤ 2 ^ f := by
  induction f with
  | zero => intro o; exact Nat.le_refl _
  | succ f ih =>
    intro o
    rw [wy, Nat.pow_succ]
    have a := ih (o + 1)
    have b := ih (o - 1)
    split <;> split <;> omega
theorem wy_40 (f o : Nat) (h : f ≤ 40) : wy f o ≤ 1099511627776 := Nat.le_trans (wy_bd f o) (Nat.pow_le_pow_right (by omega) h)
theorem wy_allD (n : Nat) : (allD n).length = wy (2 * n) 0 := by unfold allD; rw [List.length_map, dts_wy]
theorem dts_cons (f o r : Nat) (t : List UInt8) (h : f + 1 = 2 * r + o) : dts (f + 1) o t = (if 0 < r then dts f (o + 1) (t ++ [40]) else []) ++ (if 0 < o then dts f (o - 1) (t ++ [41]) else []) := by
  rw [dts_step]
  congr 1
  by_cases c : 0 < r
  · rw [if_pos c, if_pos (by omega)]
  · rw [if_neg c, if_neg (by omega)]
/-- How many go on with a bracket that opens. -/
def ahd (f o r : Nat) : Nat := if 0 < r then wy f (o + 1) else 0
theorem go_open {f o r K : Nat} {t X : List UInt8} (h : f + 1 = 2 * r + o) (hX : (dts (f + 1) o t)[K]? = some X) (hK : K < ahd f o r) : 0 < r ∧ (dts f (o + 1) (t ++ [40]))[K]? = some X := by
  unfold ahd at hK
  by_cases c : 0 < r
  · rw [if_pos c] at hK
    rw [dts_cons f o r t h, if_pos c, List.getElem?_append_left (by rw [dts_wy]; exact hK)] at hX
    exact ⟨c, hX⟩
  · rw [if_neg c] at hK; omega
theorem go_close {f o r K : Nat} {t X : List UInt8} (h : f + 1 = 2 * r + o) (hX : (dts (f + 1) o t)[K]? = some X) (hK : ¬ K < ahd f o r) : 0 < o ∧ (dts f (o - 1) (t ++ [41]))[K - ahd f o r]? = some X := by
  have hl : (if 0 < r then dts f (o + 1) (t ++ [40]) else []).length = ahd f o r := by
    unfold ahd
    split
    · exact dts_wy _ _ _
    · rfl
  rw [dts_cons f o r t h, List.getElem?_append_right (by omega), hl] at hX
  by_cases c : 0 < o
  · rw [if_pos c] at hX; exact ⟨c, hX⟩
  · rw [if_neg c] at hX; simp at hX
theorem allD_at (n K : Nat) (X : List UInt8) (h : (dts (2 * n) 0 [])[K]? = some X) : (allD n).getD K (0, zeros) = pD X := by
  unfold allD
  rw [List.getD_eq_getElem?_getD, List.getElem?_map, h]; rfl
end Go.Proofs.Ytbibmncepjmgcaa
namespace Go.Proofs.Ytbibmncepjmgcaa
open Go.RowKit Go.Lib
set_option linter.unusedVariables false
set_option linter.unusedSimpArgs false
theorem gen_wld {P : Program} {c : Code} {Q : Exit → Act → World → Prop} {a : Act} {W : World} (S : World → Prop) (h : S W) (k : ∀ x, S x → c.wp P Q a x) : c.wp P Q a W := k W h
/-- The text of a diagram is one of the list. -/
theorem text_mem (f : Nat) : ∀ (o : Nat) (t X : List UInt8), (∀ k, k < f → X[k]? = some 40 ∨ X[k]? = some 41) → X.length = f →
    (∀ k, k ≤ f → 0 ≤ (o : Int) + ((X.take k).map (fun x => stp (x.toNat : Nat))).sum) → (o : Int) + (X.map (fun x => stp (x.toNat : Nat))).sum = 0 → (t ++ X) ∈ dts f o t := by
  induction f with
  | zero =>
    intro o t X h1 h2 h3 h4
    rw [List.length_eq_zero_iff] at h2
    subst h2
    simp [dts]
  | succ f ih =>
    intro o t X h1 h2 h3 h4
    match X, h2 with
    | x :: X, h2 =>
      simp only [List.length_cons, Nat.add_right_cancel_iff] at h2
      have hx := h1 0 (by omega)
      have h1' : ∀ k, k < f → X[k]? = some 40 ∨ X[k]? = some 41 := fun k hk => by simpa using h1 (k + 1) (by omega)
      have h3' : ∀ k, k ≤ f → 0 ≤ (o : Int) + (stp (x.toNat : Nat) + ((X.take k).map (fun x => stp (x.toNat : Nat))).sum) := fun k hk => by
        have := h3 (k + 1) (by omega)
        simpa using this
      have h4' : (o : Int) + (stp (x.toNat : Nat) + (X.map (fun x => stp (x.toNat : Nat))).sum) = 0 := by simpa using h4
      have low : ∀ (l : List UInt8), -(l.length : Int) ≤ (l.map (fun x => stp (x.toNat : Nat))).sum := by
        intro l
        induction l with
        | nil => simp
        | cons y l ihl =>
          have : -1 ≤ stp (y.toNat : Nat) := by unfold stp; split <;> (try split) <;> omega
          simp only [List.map_cons, List.sum_cons, List.length_cons]
          omega
      have hl := low X
      rw [dts_step, List.mem_append]
      have e0 := h3' 0 (by omega)
      simp at e0
      simp only [List.getElem?_cons_zero, Option.some.injEq] at hx
      rcases hx with rfl | rfl
      · left
        have s1 : stp (((40 : UInt8).toNat : Nat) : Int) = 1 := by decide
        rw [s1] at h3' h4'
        rw [if_pos (by omega)]
        have := ih (o + 1) (t ++ [40]) X h1' h2 (fun k hk => by have := h3' k hk; omega) (by omega)
        simpa using this
      · right
        have s1 : stp (((41 : UInt8).toNat : Nat) : Int) = -1 := by decide
        rw [s1] at h3' h4' e0
        rw [if_pos (by omega)]
        have := ih (o - 1) (t ++ [41]) X h1' h2 (fun k hk => by have := h3' k hk; omega) (by omega)
        simpa using this
theorem cut_sum (X : List UInt8) (k : Nat) (hk : k ≤ X.length) : ((X.take k).map (fun x => stp (x.toNat : Nat))).sum = (cutP (LI X) k).2.2 := by
  induction k with
  | zero => rfl
  | succ k ih =>
    have hlt : k < X.length := by omega
    have e2 : (LI X).getD k 0 = ((X[k].toNat : Nat) : Int) := by
      unfold LI
      rw [List.getD_eq_getElem?_getD, List.getElem?_map, List.getElem?_eq_getElem hlt]; rfl
    rw [List.take_add_one, List.getElem?_eq_getElem hlt, List.map_append, List.sum_append, ih (by omega), cutP, e2]
    split
    · rename_i h; simpa using h
    · simp
theorem text_in (N : Nat) (ms : List Int) (hn : Net (N : Int) ms) (X : List UInt8) (hX : (textS N ms).data.toList = X) : X ∈ dts (2 * N) 0 [] ∧ X.length = 2 * N ∧ ∀ k, k < 2 * N → X[k]? = some 40 ∨ X[k]? = some 41 := by
  obtain ⟨h1, h8⟩ := hn.bd
  have hlen : X.length = 2 * N := by
    have := text_len (N : Int) ms (by omega)
    rw [hX] at this; omega
  have hLT : LI X = LT (N : Int) ms := by rw [← hX]; rfl
  have hlet : ∀ k, k < 2 * N → X[k]? = some 40 ∨ X[k]? = some 41 := by
    intro k hk
    have h := LT_get (N : Int) ms k (by omega)
    rw [← hLT] at h
    unfold LI at h
    rw [List.getD_eq_getElem?_getD, List.getElem?_map, List.getElem?_eq_getElem (by omega)] at h
    have h' : ((X[k].toNat : Nat) : Int) = if (k : Int) < qq N ms k then 40 else 41 := h
    rw [List.getElem?_eq_getElem (by omega)]
    split at h'
    · left; congr 1; apply UInt8.toNat_inj.1; have : (40 : UInt8).toNat = 40 := rfl; omega
    · right; congr 1; apply UInt8.toNat_inj.1; have : (41 : UInt8).toNat = 41 := rfl; omega
  refine ⟨?_, hlen, hlet⟩
  have hinv := fun k (hk : k ≤ 2 * N) => (cut_inv hn (LT N ms) (LT_lett N ms) k (by omega)).1
  have := text_mem (2 * N) 0 [] X hlet hlen (fun k hk => by
    rw [cut_sum X k (by omega), hLT, hinv k hk]; omega) (by
    have e := cut_sum X (2 * N) (by omega)
    rw [List.take_of_length_le (by omega)] at e
    have e2 := opens_end hn
    rw [show (2 * (N : Int)).toNat = 2 * N by omega] at e2
    rw [e, hLT, hinv _ (Nat.le_refl _), e2]; rfl)
  simpa using this
theorem dts_pre (f : Nat) : ∀ (o : Nat) (t X : List UInt8), X ∈ dts f o t → X.take t.length = t := by
  induction f with
  | zero => intro o t X h; simp [dts] at h; subst h; simp
  | succ f ih =>
    intro o t X h
    have key : ∀ c : UInt8, X.take (t ++ [c]).length = t ++ [c] → X.take t.length = t := fun c h => by
      have := congrArg (List.take t.length) h
      rw [List.take_take, List.take_left] at this
      rwa [Nat.min_eq_left (by simp)] at this
    rw [dts_step, List.mem_append] at h
    rcases h with h | h
    · split at h
      · exact key _ (ih _ _ _ h)
      · simp at h
    · split at h
      · exact key _ (ih _ _ _ h)
      · simp at h
theorem pre_get (t X : List UInt8) (c : UInt8) (h : X.take (t ++ [c]).length = t ++ [c]) : X[t.length]? = some c := by
  have e : (X.take (t ++ [c]).length)[t.length]? = some c := by rw [h]; simp
  rwa [List.getElem?_take_of_lt (by simp)] at e
/-- The letter says on which side of the list a text lies. -/
theorem side_open {f o r K : Nat} {t X : List UInt8} (h : f + 1 = 2 * r + o) (hX : (dts (f + 1) o t)[K]? = some X) (hc : X[t.length]? = some 40) : K < ahd f o r ∧ 0 < r ∧ (dts f (o + 1) (t ++ [40]))[K]? = some X := by
  by_cases hK : K < ahd f o r
  · exact ⟨hK, go_open h hX hK⟩
  · obtain ⟨_, h2⟩ := go_close h hX hK
    have := pre_get t X 41 (dts_pre _ _ _ _ (List.mem_of_getElem? h2))
    rw [hc] at this
    simp at this
theorem side_close {f o r K : Nat} {t X : List UInt8} (h : f + 1 = 2 * r + o) (hX : (dts (f + 1) o t)[K]? = some X) (hc : X[t.length]? = some 41) : ahd f o r ≤ K ∧ 0 < o ∧ (dts f (o - 1) (t ++ [41]))[K - ahd f o r]? = some X := by
  by_cases hK : K < ahd f o r
  · obtain ⟨_, h2⟩ := go_open h hX hK
    have := pre_get t X 40 (dts_pre _ _ _ _ (List.mem_of_getElem? h2))
    rw [hc] at this
    simp at this
  · exact ⟨by omega, go_close h hX hK⟩
theorem text_at (s : ByteArray) (X : List UInt8) (hs : s.data.toList = X) (k : Nat) (h : k < s.size) : X[k]? = some s[k] := by rw [← hs]; exact get_list s k h
end Go.Proofs.Ytbibmncepjmgcaa
