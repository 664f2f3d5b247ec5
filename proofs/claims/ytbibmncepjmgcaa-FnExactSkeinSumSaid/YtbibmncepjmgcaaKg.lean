/- slices.SortFunc over diagrams by compareDiagrams: the diagrams of a sum come in its order. slices.SortedFunc(maps.Keys(total), compareDiagrams): the diagrams of a sum, in its order. elementOfSum: the element that stands for a sum. -/
import Derived.Test.YtbibmncepjmgcaaKe
import Derived.Test.YtbibmncepjmgcaaSlsf
import Derived.Test.YtbibmncepjmgcaaCmd
import Derived.Test.YtbibmncepjmgcaaKc
import Derived.Test.YtbibmncepjmgcaaKf
namespace Go.Proofs.Ytbibmncepjmgcaa
open Go.RowKit Go.Lib Go.Sort
set_option linter.unusedVariables false
set_option linter.unusedSimpArgs false
def encV (d : DgV) : List Value := (dcells d.1.1 d.1.2).toList
theorem encV_len (d : DgV) : (encV d).length = 17 := dl17 d.2.2.1
theorem encV_one (d : DgV) : ∀ v ∈ encV d, v.oneCell' = true := by
  intro v hv
  have := dcells_one d.1.1 d.1.2
  rw [← Array.all_toList, List.all_eq_true] at this
  exact this v hv
theorem LD16.dls (ss : List DgV) : LD16 (dls ss) := by
  intro d hd
  obtain ⟨x, _, rfl⟩ := List.mem_map.1 hd
  exact x.2.2.1
theorem flat_drl [Inhabited DgV] (ss : List DgV) : (flatK encV 17 ss.toArray).toList = drl (dls ss) := by
  have h16 := LD16.dls ss
  have hz : (flatK encV 17 ss.toArray).size = ss.length * 17 := by simp
  have hl := drl_len (dls ss) h16
  have hd : (dls ss).length = ss.length := by simp [dls]
  apply List.ext_getElem?
  intro t
  by_cases ht : t < ss.length * 17
  · have e1 : (flatK encV 17 ss.toArray)[t]? = some ((flatK encV 17 ss.toArray)[t]!) := by rw [Array.getElem?_eq_getElem (by rw [hz]; exact ht), getElem!_pos _ t (by rw [hz]; exact ht)]
    rw [Array.getElem?_toList, e1, get_flatK _ _ _ _ (by simpa using ht)]
    have hi : t / 17 < ss.length := by omega
    have g := drl_get (dls ss) h16 (t / 17) (by omega) (t % 17) (Nat.mod_lt _ (by omega))
    rw [Nat.div_add_mod] at g
    rw [g]
    have e2 : ss.toArray[t / 17]! = ss[t / 17] := by simp [hi]
    have e3 : (dls ss)[t / 17]'(by omega) = (ss[t / 17]).1 := by simp [dls]
    rw [e2, e3]
    have hj : t % 17 < (encV ss[t / 17]).length := by rw [encV_len]; exact Nat.mod_lt _ (by omega)
    rw [getElem!_pos (encV ss[t / 17]) _ hj]
    exact (List.getElem?_eq_getElem hj).symm
  · rw [List.getElem?_eq_none (by rw [Array.length_toList, hz]; omega), List.getElem?_eq_none (by rw [hl, hd]; omega)]
theorem holdsK_of [Inhabited DgV] {w : World} {g : Nat} {cur : Array Value} {e : TypeId} {ss : List DgV} (hb : w.heap[g]? = some (.cells cur e (0, 0))) (ht : cur.toList.take (ss.length * 17) = drl (dls ss)) : HoldsK encV 17 w g 0 ss.toArray := by
  intro j hj
  have hj' : j < ss.length * 17 := by simpa using hj
  refine ⟨?_, by simp [World.frozen?, hb]⟩
  have h1 : (cur.toList.take (ss.length * 17))[j]? = (flatK encV 17 ss.toArray).toList[j]? := by rw [ht, flat_drl]
  rw [List.getElem?_take_of_lt hj'] at h1
  simp only [World.cell?, hb, Nat.zero_add]
  simp only [Option.isSome_none, Bool.false_eq_true, if_false]
  rw [← Array.getElem?_toList, h1, Array.getElem?_toList, Array.getElem?_eq_getElem hj, getElem!_pos (flatK encV 17 ss.toArray) j hj]
  rfl
theorem heap_sortK [Inhabited DgV] {w : World} {g n : Nat} {os : Array Obj} {cur : Array Value} {e : TypeId} {fr : Nat × Nat} (d : Array DgV) (hb : w.heap[g]? = some (.cells cur e fr)) :
    (sortWorldK encV 17 w g 0 n d os).heap[g]? = some (.cells (putCells id 0 (flatK encV 17 d) cur) e fr) := by
  have hg : g < w.heap.size := (Array.getElem?_eq_some_iff.1 hb).1
  unfold sortWorldK putRowK
  rw [heap_grow_old _ _ (by simpa using hg)]
  simp [putRow, mapBlock, Sort.ahead, Array.getElem?_modify, hb, onCells]
theorem grownBy_sortK [Inhabited DgV] {w : World} {g n : Nat} {os : Array Obj} (d : Array DgV) : w.grownBy (sortWorldK encV 17 w g 0 n d os) (some g) := by
  unfold sortWorldK putRowK
  refine ⟨rfl, rfl, rfl, by simp, fun k hk hne => ?_⟩
  rw [heap_grow_old _ _ (by simpa using hk)]
  have : g ≠ k := fun e => hne (by rw [e])
  simp [putRow, mapBlock, Sort.ahead, Array.getElem?_modify, this]
theorem take_putK [Inhabited DgV] (cur : Array Value) (K : List DgV) (h : K.length * 17 ≤ cur.size) : (putCells id 0 (flatK encV 17 K.toArray) cur).toList.take (K.length * 17) = drl (dls K) := by
  rw [← flat_drl]
  have hz : (flatK encV 17 K.toArray).size = K.length * 17 := by simp
  apply List.ext_getElem?
  intro j
  by_cases hj : j < K.length * 17
  · rw [List.getElem?_take_of_lt hj, Array.getElem?_toList, Array.getElem?_toList, Array.getElem?_eq_getElem (xs := flatK encV 17 K.toArray) (by rw [hz]; exact hj)]
    simp only [putCells, Array.getElem?_mapIdx]
    rw [Array.getElem?_eq_getElem (by omega)]
    simp only [Option.map_some, Nat.zero_le, Nat.zero_add, hz, hj, and_self, if_true, Nat.sub_zero, id]
    rw [getElem!_pos (flatK encV 17 K.toArray) j (by rw [hz]; exact hj)]
  · rw [List.getElem?_eq_none (by simp; omega), List.getElem?_eq_none (by rw [Array.length_toList, hz]; omega)]
theorem RowD.sorted [Inhabited DgV] {w : World} {base g cap n : Nat} {os : Array Obj} {cur : Array Value} {ss K : List DgV} (hl : K.length = ss.length) (hbase : base ≤ g) (hb : w.heap[g]? = some (.cells cur 53 (0, 0)))
    (h1 : ss.length ≤ cap) (h2 : cap ≤ maxLen) (h3 : cur.size = cap * 17) : RowD (sortWorldK encV 17 w g 0 n K.toArray os) base (.slice (some ⟨g, 0, none⟩) ss.length cap) (dls K) := by
  have hz : (flatK encV 17 K.toArray).size = K.length * 17 := by simp
  have hk : (dls K).length = ss.length := by simp [dls, hl]
  refine ⟨?_, .inr ⟨g, cap, _, by rw [hk], hbase, heap_sortK _ hb, by omega, h2, by simp [putCells, h3], ?_⟩⟩
  · rw [drl_len _ (LD16.dls K)]; omega
  · rw [hk, ← hl]
    exact take_putK cur K (by rw [hl, h3]; exact Nat.mul_le_mul_right 17 h1)
/-- The order. -/
def cfV (x y : DgV) : Int := Extern.BytealgCompare.cmp (textS x.1.1 x.1.2) (textS y.1.1 y.1.2)
theorem ltOf_cf (x y : DgV) : ltOf cfV x y = ltD x.1 y.1 := by
  have h := less_of (textS x.1.1 x.1.2) (textS y.1.1 y.1.2)
  unfold ltOf ltD cfV
  cases q : Op.bytesLess (textS x.1.1 x.1.2).toList (textS y.1.1 y.1.2).toList with
  | false => have := h.2 q; simp; omega
  | true =>
    have : ¬ 0 ≤ Extern.BytealgCompare.cmp (textS x.1.1 x.1.2) (textS y.1.1 y.1.2) := fun e => by rw [h.1 e] at q; cases q
    simp; omega
theorem totV (x y : DgV) (h1 : ltOf cfV x y = false) (h2 : ltOf cfV y x = false) : x = y := by
  rw [ltOf_cf] at h1 h2
  exact Subtype.ext (linD.tot _ _ x.2 y.2 h1 h2)
theorem swoV : SWO (ltOf cfV) where
  irrefl x := by rw [ltOf_cf]; exact linD.irr _ x.2
  trans x y z h1 h2 := by rw [ltOf_cf] at *; exact linD.tr _ _ _ x.2 y.2 z.2 h1 h2
  ntrans x y z h1 h2 := by
    cases q : ltOf cfV x z with
    | false => rfl
    | true =>
      cases r : ltOf cfV y x with
      | false => have := totV x y h1 r; subst this; rw [h2] at q; cases q
      | true =>
        rw [ltOf_cf] at *
        have := linD.tr _ _ _ y.2 x.2 z.2 r q
        rw [this] at h2; cases h2
theorem merge_eq (ss K : List DgV) (hp : ss.Perm K) (hK : K.Pairwise (fun a b => ltD a.1 b.1 = true)) : ss.mergeSort (fun x y => !(ltOf cfV) y x) = K := by
  have asy : ∀ a b : DgV, ltOf cfV a b = true → ltOf cfV b a = false := fun a b h => by
    cases q : ltOf cfV b a with
    | false => rfl
    | true => have := swoV.trans _ _ _ h q; rw [swoV.irrefl] at this; cases this
  refine List.Perm.eq_of_pairwise (le := fun x y => (!ltOf cfV y x) = true) (fun a b _ _ h1 h2 => ?_) (List.pairwise_mergeSort (fun a b c h1 h2 => ?_) (fun a b => ?_) ss) (hK.imp (fun {a b} h => ?_)) ((List.mergeSort_perm _ _).trans hp)
  · simp at h1 h2; exact totV a b h2 h1
  · simp at h1 h2 ⊢; exact swoV.ntrans _ _ _ h2 h1
  · cases q : ltOf cfV b a with
    | false => simp
    | true => simp [asy _ _ q]
  · rw [asy _ _ (by rw [ltOf_cf]; exact h)]; rfl
set_option maxHeartbeats 1000000 in
/-- **slices.SortFunc of a sum's diagrams.** -/
theorem sort_any (ss K : List DgV) (hp : ss.Perm K) (hK : K.Pairwise (fun a b => ltD a.1 b.1 = true)) (base : Nat) (v : Value) (w : World) (hR : RowD w base v (dls ss)) (hlen : ss.length ≤ 100000) (hbase : base ≤ w.heap.size) :
    Calls Try.prog 125 #[v, .func (.func 76) #[] #[]] w fun e w' => e = .returned (.tuple #[]) ∧ RowD w' base v (dls K) ∧ Below base w w' := by
  cases ss with
  | nil =>
    obtain rfl : K = [] := List.nil_perm.1 hp
    obtain ⟨p, cap, rfl⟩ : ∃ p cap, v = .slice p 0 cap := by
      obtain ⟨h1, ⟨rfl, _⟩ | ⟨g, cap, cur, rfl, _⟩⟩ := hR
      · exact ⟨_, _, rfl⟩
      · exact ⟨_, _, rfl⟩
    have := AnyF.slices_SortFunc_none Try.sortD p cap (.func (.func 76) #[] #[]) w
    refine Calls.mono this ?_
    rintro e w' ⟨rfl, rfl⟩
    exact ⟨rfl, hR, Below.refl _ _⟩
  | cons x ss =>
    haveI : Inhabited DgV := ⟨x⟩
    have hlk : (dls (x :: ss)).length = (x :: ss).length := by simp [dls]
    obtain ⟨h1, ⟨rfl, h0⟩ | ⟨g, cap, cur, rfl, hg, hh, hn, hcap, hsz, htake⟩⟩ := hR
    · rw [hlk] at h0; cases h0
    · rw [hlk] at hn htake ⊢
      have hblk : g < w.heap.size := (Array.getElem?_eq_some_iff.1 hh).1
      have eg : ∀ args w, (callFunc 76 args).run Try.prog w = .ok (.enter 76 args) w := enters_of Try.func76 (by kernel_rfl) rfl
      have hcmp : CmpLays Try.prog 76 #[] encV 17 cfV g 0 (x :: ss).toArray.size w := by
        intro m os dk hdk a b
        have hc := cmpDd_any a.1.1 b.1.1 a.1.2 b.1.2 a.2.2.1 b.2.2.1 a.2.2.2 b.2.2.2 a.2.size.1 a.2.size.2 b.2.size.1 b.2.size.2 (sortWorldK encV 17 w g 0 m dk os)
        have e : (#[Value.agg (encV a).toArray, Value.agg (encV b).toArray] ++ #[] : Array Value) = #[.agg (dcells a.1.1 a.1.2), .agg (dcells b.1.1 b.1.2)] := by simp [encV]
        rw [e]
        refine Calls.mono hc ?_
        rintro e w' ⟨rfl, hb, hd⟩
        exact ⟨rfl, grown_of_below hb hd⟩
      have hs := AnyQ.slices_SortFunc_total Try.sortD 17 Try.isAgg53 Try.sizeOf53 encV encV_len encV_one cfV swoV 76 #[] g 0 cap (x :: ss).toArray w eg hcmp (holdsK_of hh htake) hblk (by simp at hlen ⊢; omega) totV
      refine Calls.mono hs ?_
      rintro e w' ⟨rfl, n, os, rfl⟩
      rw [List.toList_toArray, merge_eq _ _ hp hK]
      exact ⟨rfl, RowD.sorted hp.length_eq.symm hg hh hn hcap hsz, (Below.refl base w).grown (grownBy_sortK _) hbase (fun k e => by cases e; exact hg)⟩
end Go.Proofs.Ytbibmncepjmgcaa
namespace Go.Proofs.Ytbibmncepjmgcaa
open Go.RowKit Go.Lib
set_option linter.unusedVariables false
set_option linter.unusedSimpArgs false
def kys (L : List Tm) (h : ∀ t ∈ L, VD (kTm t)) : List DgV := L.pmap (fun t ht => ⟨kTm t, ht⟩) h
theorem dls_kys (L : List Tm) (h : ∀ t ∈ L, VD (kTm t)) : dls (kys L h) = L.map kTm := by
  simp [dls, kys, List.map_pmap, List.pmap_eq_map]
theorem GoodT.kval {p : Int} {L : List Tm} (hG : GoodT p L) : ∀ t ∈ L, VD (kTm t) := hG.val
theorem kys_len (L : List Tm) (h : ∀ t ∈ L, VD (kTm t)) : (kys L h).length = L.length := by unfold kys; exact List.length_pmap
theorem GoodT.kys {p : Int} {L : List Tm} (hG : GoodT p L) : (kys L hG.kval).Pairwise (fun a b => ltD a.1 b.1 = true) ∧ (kys L hG.kval).Nodup ∧ ∀ d : DgV, d ∈ kys L hG.kval ↔ d.1 ∈ L.map kTm := by
  refine ⟨?_, ?_, fun d => ?_⟩
  · have h := hG.srt
    have e : ((Go.Proofs.Ytbibmncepjmgcaa.kys L hG.kval).map (·.1)).Pairwise (fun a b => ltD a b = true) := by
      have := dls_kys L hG.kval
      unfold dls at this
      rw [this, List.pairwise_map]
      exact h
    rw [List.pairwise_map] at e
    exact e
  · have e : ((Go.Proofs.Ytbibmncepjmgcaa.kys L hG.kval).map (·.1)).Nodup := by
      have := dls_kys L hG.kval
      unfold dls at this
      rw [this]; exact hG.nodup
    exact List.Pairwise.of_map _ (fun a b h e => h (by rw [e])) e
  · rw [← dls_kys L hG.kval]
    unfold dls
    constructor
    · intro h; exact List.mem_map.2 ⟨d, h, rfl⟩
    · intro h
      obtain ⟨x, hx, e⟩ := List.mem_map.1 h
      have : x = d := Subtype.ext e
      rw [← this]; exact hx
set_option maxHeartbeats 1000000 in
theorem sorted_ok (Bm b nn : Nat) (L : List Tm) (p : Int) (hG : GoodT p L) (hL : L.length ≤ 100000) (w : World) (hBm : Bm < w.heap.size) (hm : w.cell? ⟨Bm, 0, none⟩ = some (.map (some b))) (hM : Smp w b nn L) :
    Calls Try.prog 121 #[.func (.func 126) #[] #[.pointer (some ⟨Bm, 0, none⟩)], .func (.func 76) #[] #[]] w fun e w' =>
      (∃ v, e = .returned v ∧ RowD w' w.heap.size v (L.map kTm)) ∧ Below w.heap.size w w' := by
  have hA := Lib.hid (col_ok Bm b nn L p hG hL w hBm hm hM)
  have hS := Lib.hid (show ∀ (ss : List DgV) (hs : ss.Nodup ∧ ∀ d : DgV, d ∈ ss ↔ d.1 ∈ L.map kTm) (v : Value) (w' : World) (hR : RowD w' w.heap.size v (dls ss)) (hz : w.heap.size ≤ w'.heap.size),
    Calls Try.prog 125 #[v, .func (.func 76) #[] #[]] w' fun e w2 => e = .returned (.tuple #[]) ∧ RowD w2 w.heap.size v (L.map kTm) ∧ Below w.heap.size w' w2 from by
    intro ss hs v w' hR hz
    have hk := hG.kys
    have hp : ss.Perm (kys L hG.kval) := (List.perm_ext_iff_of_nodup hs.1 hk.2.1).2 (fun d => (hs.2 d).trans (hk.2.2 d).symm)
    have hl : ss.length ≤ 100000 := by rw [hp.length_eq, kys_len]; exact hL
    have := sort_any ss _ hp hk.1 w.heap.size v w' hR hl hz
    rw [dls_kys] at this
    exact this)
  clear hG hL hBm hm hM
  go_enter Try.func121, Try.ntmps121
  go_wp2_with (first
    | (go_at_call 124; ((with_reducible refine (hA.out).mono ?_); rintro e w2 ⟨⟨v, ss, rfl, hs, hR⟩, hB⟩))
    | (go_at_call 125; ((with_reducible refine (hS.out ss hs v w2 hR hB.size).mono ?_); rintro e w3 ⟨rfl, hR3, hB3⟩)))
  go_ret
  exact ⟨⟨v, rfl, hR3⟩, hB.trans hB3⟩
end Go.Proofs.Ytbibmncepjmgcaa
namespace Go.Proofs.Ytbibmncepjmgcaa
open Go.RowKit Go.Lib
open Go.Maps (Keyed)
set_option linter.unusedVariables false
set_option linter.unusedSimpArgs false
theorem built00 : Try.prog.built 30 [] = some (ecl 0 0 0 (.slice none 0 0)) := by kernel_rfl
set_option maxRecDepth 100000 in
set_option maxHeartbeats 4000000 in
/-- Too many terms. -/
theorem eos_many (p c n : Int) (q : Option Addr) (l cap : Nat) (b nn : Nat) (pp : Int) (L : List Tm) (w : World) (hM : Smp w b nn L) (hG : GoodT pp L) (hL : 140 < L.length) (hL2 : L.length ≤ 100000) :
    Calls Try.prog 114 #[.agg (ecl p c n (.slice q l cap)), .map (some b)] w fun e w' => e = .returned (.tuple #[.agg (ecl 0 0 0 (.slice none 0 0)), .int .i64 3]) ∧ Below w.heap.size w w' := by
  obtain ⟨D, hO, hS, hz⟩ := hM.size hG
  have hO2 := Lib.hid (fun A B => (hO.alloc A).alloc B)
  have hz2 := Lib.hid hz
  clear hM hG hO hS hz
  unfold ecl at *
  go_enter Try.func114, Try.ntmps114
  go_wp2_with (first
    | (at_len; refine wpList_len_own _ rfl _ _ rfl _ _ Try.underlying64 _ b nn _ rfl (hO2.out _ _) ?_; rw [hz2.out]))
  have oR : Own ((w.alloc (.cells #[.int .i64 p, .int .i64 c, .int .i64 n, .slice q l cap] 30)).alloc (.cells #[.int .i64 0, .int .i64 0, .int .i64 0, .slice none 0 0] 30)) (w.heap.size + 1) #[.int .i64 0, .int .i64 0, .int .i64 0, .slice none 0 0] 30 := Own.at (w.alloc _) _ _ (by simp)
  refine bodyPost_ret (v := .tuple #[.agg #[.int .i64 0, .int .i64 0, .int .i64 0, .slice none 0 0], .int .i64 3]) (results_row_tmp rfl _ _ _ _ _ (0, 0) _ rfl oR Try.underlying30 rfl (by kernel_rfl) _ rfl) rfl ⟨rfl, ((Below.refl _ w).alloc (Nat.le_refl _) _).alloc (by simp) _⟩
theorem wpList_append_term1 {ops : Array Oper} {rest : List Oper} {o : Oper} {a : Act} {w : World} {Q : Exit → Act → World → Prop} (hgd : o.guard = none) (s x : Operand)
    (ho : o.op = .call { callee := .builtin .append, args := #[s, x], argTypes := #[28, 28] })
    (base : Nat) (v : Value) (xs : List Tm) (y : Tm) (h16 : y.2.1.length = 16) (hs : a.eval s = v) (hi : RowT w base v xs) (ad : Addr) (c : Nat)
    (hx : a.eval x = .slice (some ad) 1 c) (hy : ∀ i u, (tsl [y])[i]? = some u → w.cell? (ad.add i) = some u) (hl : xs.length < 2000000) (hbase : base ≤ w.heap.size)
    (h : ∀ v' w', RowT w' base v' (xs ++ [y]) → v' ≠ .slice none 0 0 → w.grownBy w' v.ownBlock → wpList Try.prog ops Q rest (a.put o.dst v') w') : wpList Try.prog ops Q (o :: rest) a w := by
  obtain ⟨i0, hi0, hz0, hz1, hz2⟩ := info_parts info52
  have h16' : L16 [y] := fun t ht => by rw [List.mem_singleton.1 ht]; exact h16
  refine wpList_append_own_at w hgd s x 28 ho base 56 i0 _ 18 32 Try.underlying28 hi0 hz0 hz1 hz2 (by rfl) (by decide) _ _ _ hs hi ad 1 c (tsl [y]) hx (by rw [tsl_len [y] h16']; rfl) hy (one_tsl [y]) (by unfold maxLen; omega) (by omega) hbase ?_
  intro v' w' hown hgr hn hat
  rw [← tsl_app] at hown
  refine h v' w' ?_ (fun e => by have := (hn.1 e).2; omega) hgr
  unfold RowT
  rw [List.length_append]; exact hown
theorem RowT.sl {w : World} {base : Nat} {v : Value} {ts : List Tm} (h : RowT w base v ts) : ∃ p m c, v = .slice p m c := by
  obtain ⟨h1, ⟨rfl, _⟩ | ⟨g, cap, cur, rfl, _⟩⟩ := h
  · exact ⟨_, _, _, rfl⟩
  · exact ⟨_, _, _, rfl⟩
theorem RowD.slk {w : World} {base : Nat} {v : Value} {ds : List DgR} (h : RowD w base v ds) : ∃ p c, v = .slice p ds.length c := by
  obtain ⟨h1, ⟨rfl, h0⟩ | ⟨g, cap, cur, rfl, _⟩⟩ := h
  · rw [h0]; exact ⟨_, _, rfl⟩
  · exact ⟨_, _, rfl⟩
/-- A diagram is read out of such a slice. -/
theorem RowD.rd {w : World} {base : Nat} {p : Option Addr} {c : Nat} {ds : List DgR} (h : RowD w base (.slice p ds.length c) ds) (h16 : LD16 ds) (k : Nat) (hk : k < ds.length) :
    ∃ g, p = some ⟨g, 0, none⟩ ∧ base ≤ g ∧ g < w.heap.size ∧ ∀ j u, (dcells (ds.getD k (0, zeros)).1 (ds.getD k (0, zeros)).2).toList[j]? = some u → w.cell? ((⟨g, k * 17, none⟩ : Addr).add j) = some u := by
  rcases h.shape h16 with ⟨e, e2⟩ | ⟨g', cap', e, hb, hl, hc⟩
  · rw [e2] at hk; simp at hk
  · cases e
    refine ⟨g', rfl, hb, hl, fun j u hu => ?_⟩
    have := hc k hk j u hu
    rwa [Addr.add_mid, Nat.zero_add] at this
theorem Own.ne_rowT {w : World} {base g : Nat} {v u0 u1 u2 u3 : Value} {ts : List Tm} (h : Own w g #[u0, u1, u2, u3] 30) (hR : RowT w base v ts) : v.ownBlock ≠ some g := by
  intro e
  obtain ⟨h1, ⟨rfl, _⟩ | ⟨g', cap, cur, rfl, _, hh, _⟩⟩ := hR
  · cases e
  · have eg : g' = g := by cases e; rfl
    subst eg
    have h' : w.heap[g']? = some (.cells #[u0, u1, u2, u3] 30 (0, 0)) := h
    rw [h'] at hh
    have := (Obj.cells.inj (Option.some.inj hh)).2.1
    exact absurd this (by decide)
theorem Own.ne_rowD {w : World} {base g : Nat} {v u0 u1 u2 u3 : Value} {ds : List DgR} (h : Own w g #[u0, u1, u2, u3] 30) (hR : RowD w base v ds) : v.ownBlock ≠ some g := by
  intro e
  obtain ⟨_, _, cs, hc⟩ := hR.own g e
  have h1 : w.heap[g]? = some (.cells cs 53 (0, 0)) := hc
  have h' : w.heap[g]? = some (.cells #[u0, u1, u2, u3] 30 (0, 0)) := h
  rw [h'] at h1
  have := (Obj.cells.inj (Option.some.inj h1)).2.1
  exact absurd this (by decide)
theorem RowT.keptb {w w' : World} {base : Nat} {v : Value} {ts : List Tm} (h : RowT w base v ts) (hs : ∀ g, v.ownBlock = some g → w'.heap[g]? = w.heap[g]?) : RowT w' base v ts := by
  obtain ⟨h1, h2 | ⟨g, cap, cur, hv, hg, hh, hn, hcap, hsz, htake⟩⟩ := h
  · exact ⟨h1, .inl h2⟩
  · exact ⟨h1, .inr ⟨g, cap, cur, hv, hg, (hs g (by rw [hv]; rfl)).trans hh, hn, hcap, hsz, htake⟩⟩
theorem RowT.lt {w : World} {base : Nat} {v : Value} {ts : List Tm} (h : RowT w base v ts) (g : Nat) (e : v.ownBlock = some g) : g < w.heap.size := by
  obtain ⟨h1, ⟨rfl, _⟩ | ⟨g', cap, cur, rfl, _, hh, _⟩⟩ := h
  · cases e
  · cases e; exact lt_of_block hh
theorem Smp.drew {w : World} {b nn : Nat} {L : List Tm} (h : Smp w b nn L) : Smp { w with drawn := w.drawn + 1 } b nn L := h.kept (row := none) ⟨rfl, rfl, rfl, Nat.le_refl _, fun _ _ _ => rfl⟩ (by simp)
theorem Smp.only {w w' : World} {b nn g : Nat} {L : List Tm} (h : Smp w b nn L) (ho : Only g w w') (hb : b ≠ g) : Smp w' b nn L := by
  obtain ⟨D, ⟨es, clock, hh, r⟩, h2⟩ := h
  exact ⟨D, ⟨es, clock, by rw [ho.other b hb]; exact hh, r⟩, h2⟩
theorem Smp.ne {w : World} {b nn g : Nat} {L : List Tm} {cs : Array Value} {t : TypeId} (h : Smp w b nn L) (hO : Own w g cs t) : b ≠ g := by
  rintro rfl
  obtain ⟨D, ⟨es, clock, hh, r⟩, h2⟩ := h
  have h' : w.heap[b]? = some (.cells cs t (0, 0)) := hO
  rw [hh] at h'; cases h'
theorem Smp.ne_own {w : World} {b nn base : Nat} {L ts : List Tm} {v : Value} (h : Smp w b nn L) (hR : RowT w base v ts) : v.ownBlock ≠ some b := by
  intro e
  obtain ⟨h1, ⟨rfl, _⟩ | ⟨g', cap, cur, rfl, _, hh, _⟩⟩ := hR
  · cases e
  · exact h.ne (g := g') hh (by cases e; rfl)
theorem RowT.ne_rowD {w : World} {base base' : Nat} {v v' : Value} {ts : List Tm} {ds : List DgR} (h : RowT w base v ts) (hR : RowD w base' v' ds) : ∀ g, v.ownBlock = some g → v'.ownBlock ≠ some g := by
  intro g e e'
  obtain ⟨_, _, cs, hc⟩ := hR.own g e'
  have h1 : w.heap[g]? = some (.cells cs 53 (0, 0)) := hc
  obtain ⟨_, ⟨rfl, _⟩ | ⟨g', cap, cur, rfl, _, hh, _⟩⟩ := h
  · cases e
  · have eg : g' = g := by cases e; rfl
    subst eg
    rw [h1] at hh
    have := (Obj.cells.inj (Option.some.inj hh)).2.1
    exact absurd this (by decide)
set_option maxRecDepth 100000 in
set_option maxHeartbeats 8000000 in
/-- The element that stands for a sum. -/
theorem eos_any (p c n : Int) (q : Option Addr) (l cap : Nat) (b nn : Nat) (pp : Int) (L : List Tm) (w : World) (hM : Smp w b nn L) (hG : GoodT pp L) (hp : pp ≤ 97) (hL : L.length ≤ 140) :
    Calls Try.prog 114 #[.agg (ecl p c n (.slice q l cap)), .map (some b)] w fun e w' => ∃ qt mt ct, e = .returned (.tuple #[.agg (ecl p c n (.slice qt mt ct)), .int .i64 0]) ∧ RowT w' w.heap.size (.slice qt mt ct) L ∧ Below w.heap.size w w' := by
  obtain ⟨D, hO, hS, hz⟩ := hM.size hG
  have hO2 := Lib.hid (fun A B => (hO.alloc A).alloc B)
  have hz2 := Lib.hid hz
  have hky := Lib.hid (fun W => keys_any b W)
  have hso := Lib.hid (fun Bm W h1 h2 h3 => sorted_ok Bm b nn L pp hG (by omega) W h1 h2 h3)
  have hlk := Lib.hid (fun (d : Dg) (hd : VD d) (D2 : DataW Unit) (hS2 : Smr D2 L) => hS2.look @kyD_inj hG hd)
  have hgt := Lib.hid (fun (k : Nat) (hk : k < L.length) => show ∃ dn dm f, L[k] = (dn, dm, f) ∧ VD (dn, dm) ∧ fac trmT (dn, dm) L = f ∧ (L.map kTm).getD k (0, zeros) = (dn, dm) from by
    obtain ⟨⟨dn, dm, f⟩, h⟩ : ∃ t, L[k] = t := ⟨_, rfl⟩
    have hm : (dn, dm, f) ∈ L := by rw [← h]; exact List.getElem_mem hk
    refine ⟨dn, dm, f, h, hG.val _ hm, fac_mem (t := (dn, dm, f)) linD hG hm, ?_⟩
    rw [List.getD_eq_getElem?_getD, List.getElem?_map, List.getElem?_eq_getElem hk, h]; rfl)
  have h16 := Lib.hid (show LD16 (L.map kTm) from fun d hd => by obtain ⟨t, ht, rfl⟩ := List.mem_map.1 hd; exact (hG.val t ht).2.1)
  have hW := Lib.hid (fun (A : Obj) (cR cX : Array Value) => show
      Own ((((w.alloc A).alloc (.cells cR 30)).alloc (.cells cX 30)).alloc (.cells #[.map (some b)] 64)) (w.heap.size + 1) cR 30 ∧
      Own ((((w.alloc A).alloc (.cells cR 30)).alloc (.cells cX 30)).alloc (.cells #[.map (some b)] 64)) (w.heap.size + 1 + 1) cX 30 ∧
      ((((w.alloc A).alloc (.cells cR 30)).alloc (.cells cX 30)).alloc (.cells #[.map (some b)] 64)).cell? ⟨w.heap.size + 1 + 1 + 1, 0, none⟩ = some (.map (some b)) ∧
      Smp ((((w.alloc A).alloc (.cells cR 30)).alloc (.cells cX 30)).alloc (.cells #[.map (some b)] 64)) b nn L ∧
      Below w.heap.size w ((((w.alloc A).alloc (.cells cR 30)).alloc (.cells cX 30)).alloc (.cells #[.map (some b)] 64)) ∧
      w.heap.size + 1 + 1 + 1 < ((((w.alloc A).alloc (.cells cR 30)).alloc (.cells cX 30)).alloc (.cells #[.map (some b)] 64)).heap.size from
    ⟨((Own.at (w.alloc A) cR 30 (by simp)).alloc _).alloc _, (Own.at ((w.alloc A).alloc _) cX 30 (by simp)).alloc _, (Own.at (((w.alloc A).alloc _).alloc _) #[.map (some b)] 64 (by simp)).cell 0,
      ((((hM.alloc _).alloc _).alloc _).alloc _), ((((Below.refl _ w).alloc (Nat.le_refl _) _).alloc (by simp) _).alloc (by simp; omega) _).alloc (by simp; omega) _, by simp⟩)
  have hl2 : (L.map kTm).length = L.length := by simp
  obtain ⟨ds, hds⟩ : ∃ ds, L.map kTm = ds := ⟨_, rfl⟩
  rw [hds] at hl2 h16 hgt hso
  have hl3 := Lib.hid hl2
  clear hM hG hO hS hz hds hl2
  unfold ecl at *
  go_enter Try.func114, Try.ntmps114
  go_wp2_with (first
    | (at_len; refine wpList_len_own _ rfl _ _ rfl _ _ Try.underlying64 _ b nn _ rfl (hO2.out _ _) ?_; rw [hz2.out])
    | (go_at_call 122; ((with_reducible refine (hky.out _).mono ?_); rintro e w1 ⟨rfl, rfl⟩))
    | (go_at_call 121; (obtain ⟨oR, oX, cM, sM, bW, zW⟩ := hW.out (.cells #[.int .i64 p, .int .i64 c, .int .i64 n, .slice q l cap] 30) #[.int .i64 0, .int .i64 0, .int .i64 0, .slice none 0 0] #[.int .i64 p, .int .i64 c, .int .i64 n, .slice none 0 0]; generalize ((((w.alloc (.cells #[.int .i64 p, .int .i64 c, .int .i64 n, .slice q l cap] 30)).alloc (.cells #[.int .i64 0, .int .i64 0, .int .i64 0, .slice none 0 0] 30)).alloc (.cells #[.int .i64 p, .int .i64 c, .int .i64 n, .slice none 0 0] 30)).alloc (.cells #[.map (some b)] 64)) = w4 at *; (with_reducible refine (hso.out _ w4 zW cM sM).mono ?_); rintro e w5 ⟨⟨v5, rfl, hR5⟩, hB5⟩; obtain ⟨pv, cv, rfl⟩ := hR5.slk)))
  have oR5 := oR.below hB5 (by omega)
  have oX5 := oX.below hB5 (by omega)
  have sM5 := sM.below hB5 sM.lt
  have bW5 : Below w.heap.size w w5 := bW.trans (hB5.mono (by omega))
  have hRW : RowD w5 w.heap.size (.slice pv ds.length cv) ds := hR5.base (by omega)
  have z5 : w.heap.size + 1 + 1 + 1 < w5.heap.size := by have := hB5.size; omega
  clear oR oX cM sM bW zW hB5 hR5 hO2 hz2 hky hso hW
  go_loopw [24] (fun i wr => ∃ k : Nat, k ≤ L.length ∧ i = .int .i64 k ∧ ∃ pt mt ct, Own wr (w.heap.size + 1) #[.int .i64 0, .int .i64 0, .int .i64 0, .slice none 0 0] 30 ∧ Own wr (w.heap.size + 1 + 1) #[.int .i64 p, .int .i64 c, .int .i64 n, .slice pt mt ct] 30 ∧ Smp wr b nn L ∧ RowD wr w.heap.size (.slice pv ds.length cv) ds ∧ RowT wr w.heap.size (.slice pt mt ct) (L.take k) ∧ Below w.heap.size w wr ∧ w.heap.size + 1 + 1 + 1 < wr.heap.size) (fun i _ => (L.length - intOf i).toNat)
  case atStart => exact ⟨0, by omega, rfl, none, 0, 0, oR5, oX5, sM5, hRW, ⟨rfl, .inl ⟨rfl, rfl⟩⟩, bW5, z5⟩
  case round =>
    clear oR5 oX5 sM5 bW5 hRW z5
    obtain ⟨k, hk, rfl, pt, mt, ct, oR, oX, sM, hR, hT, hB, hz⟩ := hrel
    by_cases hlt : k < L.length
    · have hkd : k < ds.length := by rw [hl3.out]; exact hlt
      obtain ⟨g, rfl, hg, hgl, hrd⟩ := hR.rd h16.out k hkd
      obtain ⟨dn, dm, f, hLk, hvd, hfc, hgd⟩ := hgt.out k hlt
      rw [hgd] at hrd
      have hrd' := Lib.hid hrd
      have hlm := Lib.hid (show dm.length = 16 from hvd.2.1)
      have kI : (k : Int) < (ds.length : Int) := by omega
      have hlo := Lib.hid (hlk.out (dn, dm) hvd)
      have hkl := Lib.hid (kyD_vd hvd)
      rw [hfc] at hlo
      clear hrd hgd hvd
      go_upto_region 7 with (first
        | (refine wpList_load_at rfl 53 (.tmp 26) rfl ⟨g, k * 17, none⟩ rfl (dcells dn dm).toList _ hrd'.out Try.underlying53 rfl (by rw [dl17 hlm.out]; kernel_rfl) ?_)
        | (refine wpList_store_own rfl 53 _ _ rfl _ _ rfl rfl 53 _ (Own.new wr _ _) (row26 (d17 _ _ (hlm.out))) (z_eq (d17 _ _ hlm.out)) (dcells_one _ _) ?_; intro w2 hO2 hN2))
      have hsz := hB.size
      have s2 : w2.heap.size = wr.heap.size + 1 := by rw [hN2.size]; simp
      have hh : ∀ j, j < wr.heap.size → w2.heap[j]? = wr.heap[j]? := fun j hj => (hN2.other j (by omega)).trans (Below.heap_alloc _ _ _ hj)
      have b2 : Below w.heap.size w w2 := (hB.alloc hsz _).trans (hN2.below.mono hsz)
      have oR2 : Own w2 (w.heap.size + 1) #[.int .i64 0, .int .i64 0, .int .i64 0, .slice none 0 0] 30 := (hh _ oR.lt).trans oR
      have oX2 : Own w2 (w.heap.size + 1 + 1) #[.int .i64 p, .int .i64 c, .int .i64 n, .slice pt mt ct] 30 := (hh _ oX.lt).trans oX
      have sM2 : Smp w2 b nn L := (sM.alloc (.cells zcells 53)).only hN2 (by have := sM.lt; omega)
      have hR2 : RowD w2 w.heap.size (.slice (some ⟨g, 0, none⟩) ds.length cv) ds := hR.kept (fun g e => hh g (hR.own g e).2.1)
      have hT2 : RowT w2 w.heap.size (.slice pt mt ct) (L.take k) := hT.keptb (fun g e => hh g (hT.lt g e))
      have z2 : w.heap.size + 1 + 1 + 1 < w2.heap.size := by omega
      clear oR oX sM hR hT hB hN2 hh hsz hrd' s2 hgl
      obtain ⟨gd, hgd⟩ : ∃ gd, wr.heap.size = gd := ⟨_, rfl⟩
      rw [hgd] at hO2 ⊢
      clear hgd hz
      refine wp_region_st (fun x => Own x (w.heap.size + 1 + 1) #[.int .i64 p, .int .i64 c, .int .i64 n, .slice pt mt ct] 30 ∧ Own x gd (dcells dn dm) 53) [(true, 0), (true, 1), (true, 2), (true, 3), (true, 4), (false, 5), (false, 6), (false, 7)] 8 (by kernel_rfl) (by kernel_rfl) ⟨oX2.drewN 1, hO2.drewN 1⟩ ?_
      have oRd : Own { w2 with drawn := w2.drawn + 1 } (w.heap.size + 1) #[.int .i64 0, .int .i64 0, .int .i64 0, .slice none 0 0] 30 := oR2
      have oXd : Own { w2 with drawn := w2.drawn + 1 } (w.heap.size + 1 + 1) #[.int .i64 p, .int .i64 c, .int .i64 n, .slice pt mt ct] 30 := oX2
      have oDd : Own { w2 with drawn := w2.drawn + 1 } gd (dcells dn dm) 53 := hO2
      have sMd := sM2.drew
      have hRd : RowD { w2 with drawn := w2.drawn + 1 } w.heap.size (.slice (some ⟨g, 0, none⟩) ds.length cv) ds := hR2
      have hTd : RowT { w2 with drawn := w2.drawn + 1 } w.heap.size (.slice pt mt ct) (L.take k) := hT2
      have hBd : Below w.heap.size w { w2 with drawn := w2.drawn + 1 } := b2.drew
      have zd : w.heap.size + 1 + 1 + 1 < ({ w2 with drawn := w2.drawn + 1 } : World).heap.size := z2
      clear oR2 oX2 hO2 sM2 hR2 hT2 b2 z2
      generalize ({ w2 with drawn := w2.drawn + 1 } : World) = w3 at *
      obtain ⟨D3, hO3, hS3⟩ := sMd
      have sMd : Smp w3 b nn L := ⟨D3, hO3, hS3⟩
      have hlk3 := Lib.hid (show D3.atKey (kyD (dn, dm)) (.lit (.int .i64 0)) = .lit (.int .i64 f) from hlo.out D3 hS3)
      simp only [List.map_cons, List.map_nil, opS'_mk, opN_zero, opN_succ, List.drop_succ_cons, List.drop_zero]
      (apply wpSt_read; · (intro wd hS K hK; clear hS; go_simp; exact hK))
      (apply wpSt_read; · (intro wd hS K hK; have d3 : wd.cell? ⟨w.heap.size + 1 + 1, 3, none⟩ = some (.slice pt mt ct) := hS.1.cell 3; clear hS; go_simp; exact hK))
      (apply wpSt_read; · (intro wd hS K hK; rw [if_pos (by rfl)]; refine still_load_row 53 (.tmp 8) rfl gd rfl 53 (dcells dn dm) _ hS.2 Try.underlying53 rfl (row26 (d17 _ _ hlm.out)) ?_; exact hK))
      (apply wpSt_read; · (intro wd hS K hK; clear hS; go_simp; exact hK))
      (apply wpSt_read; · (intro wd hS K hK; rw [if_pos (by rfl)]; refine still_load_row 53 (.tmp 8) rfl gd rfl 53 (dcells dn dm) _ hS.2 Try.underlying53 rfl (row26 (d17 _ _ hlm.out)) ?_; exact hK))
      refine wpSt_keep (fun K hK => ?_)
      go_wp2_with (first
        | (at_lookup; refine wpList_lookup_own_int _ rfl _ _ 64 rfl 53 2 .i64 keyedD Try.underlying64 Try.underlying2 (by kernel_rfl) b _ _ rfl hO3 _ (kyD (dn, dm)) rfl hkl.out ?_; intro c3 hc3 hw3; have hcK : c3 = f := (by rw [hlk3.out] at hc3; injection hc3 with hc3; injection hc3 with _ hc3; exact hc3.symm); subst hcK))
      refine hK _ _ ⟨oXd, oDd⟩ rfl ?_
      clear hK K
      refine wpSt_keep (fun K hK => ?_)
      go_wp2_with (first
        | (refine wpList_build_of rfl 56 #[(0, .tmp 30), (1, .tmp 33)] rfl (tcl (dn, dm, c3)).toArray ?_ ?_; (exact builtT dn dm hlm.out c3)))
      refine hK _ _ ⟨oXd, oDd⟩ rfl ?_
      clear hK K
      refine wpSt_keep (fun K hK => ?_)
      go_wp2_with (first
        | (refine wpList_mkslice rfl 28 (.tmp 34) rfl (.agg (tcl (dn, dm, c3)).toArray) _ rfl (mkT1 dn dm hlm.out c3 w3) ?_))
      refine hK _ _ ⟨oXd.alloc _, oDd.alloc _⟩ rfl ?_
      clear hK K
      refine wpSt_nil ?_
      have one := Lib.hid (one_flat w3 (dn, dm, c3))
      have oR4 := oRd.alloc (.cells (tcl (dn, dm, c3)).toArray 56)
      have oX4 := oXd.alloc (.cells (tcl (dn, dm, c3)).toArray 56)
      have sM4 := sMd.alloc (.cells (tcl (dn, dm, c3)).toArray 56)
      have hR4 := hRd.alloc (.cells (tcl (dn, dm, c3)).toArray 56)
      have hT4 := hTd.alloc (.cells (tcl (dn, dm, c3)).toArray 56)
      have hB4 := hBd.alloc hBd.size (.cells (tcl (dn, dm, c3)).toArray 56)
      have z4 : w.heap.size + 1 + 1 + 1 < (w3.alloc (.cells (tcl (dn, dm, c3)).toArray 56)).heap.size := by simp; omega
      have w3s := hBd.size
      have nX := oX4.ne_rowT hT4
      have nR := oR4.ne_rowT hT4
      have nM := sM4.ne_own hT4
      have nD := hT4.ne_rowD hR4
      have tb := fun g e => hT4.blk g e
      have htl := Lib.hid (show (L.take k).length < 2000000 by rw [List.length_take]; omega)
      obtain ⟨tk, htk⟩ : ∃ tk, L.take k = tk := ⟨_, rfl⟩
      have hts := Lib.hid (show L.take (k + 1) = tk ++ [(dn, dm, c3)] by rw [← htk, ← hLk]; exact (List.take_append_getElem hlt).symm)
      rw [htk] at hT4 htl
      clear oRd oXd sMd hRd hTd hBd zd oDd hO3 hS3 hlk3 hLk hkl hlo htk
      go_wp2_with (first
        | (refine wpList_append_term1 rfl (.tmp 29) (.tmp 35) rfl w.heap.size (.slice pt mt ct) tk (dn, dm, c3) hlm.out rfl hT4 ⟨w3.heap.size, 0, none⟩ 1 rfl one.out htl.out (by simp; omega) ?_; intro v5 w5 hT5 hv5 hG5; obtain ⟨p5, m5, q5, rfl⟩ := hT5.sl; have oX5 : Own w5 (w.heap.size + 1 + 1) #[.int .i64 p, .int .i64 c, .int .i64 n, .slice pt mt ct] 30 := (hG5.block _ oX4.lt (fun e => nX e.symm)).trans oX4; have f5 := oX5.free 3; have k5 : w5.cell? ⟨w.heap.size + 1 + 1, 3, none⟩ = some (.slice pt mt ct) := oX5.cell 3))
      have oR5 : Own w5 (w.heap.size + 1) #[.int .i64 0, .int .i64 0, .int .i64 0, .slice none 0 0] 30 := (hG5.block _ oR4.lt (fun e => nR e.symm)).trans oR4
      have hR5 := hR4.kept (fun g e => hG5.block g (hR4.own g e).2.1 (fun e2 => nD g e2.symm e))
      have sM5 := sM4.kept hG5 (fun e => nM e.symm)
      have hB5 : Below w.heap.size w w5 := hB4.grown hG5 hB4.size (fun k e => tb k e)
      have z5 : w.heap.size + 1 + 1 + 1 < w5.heap.size := by have := hG5.size; omega
      have hB6 : Below w.heap.size w (w5.setCell ⟨w.heap.size + 1 + 1, 3, none⟩ (.slice p5 m5 q5)) := hB5.setCell (p := ⟨w.heap.size + 1 + 1, 3, none⟩) (by show w.heap.size ≤ w.heap.size + 1 + 1; omega) _
      have n5 := oX5.ne_rowT hT5
      have nD5 := oX5.ne_rowD hR5
      have hs6 : ∀ j, j ≠ w.heap.size + 1 + 1 → (w5.setCell ⟨w.heap.size + 1 + 1, 3, none⟩ (.slice p5 m5 q5)).heap[j]? = w5.heap[j]? := fun j hj => Below.heap_setCell _ _ _ _ hj
      have oX6 := oX5.set 3 (.slice p5 m5 q5)
      have sM6 := sM5.only (Only.set (w.heap.size + 1 + 1) 3 w5 (.slice p5 m5 q5)) (sM5.ne oX5)
      go_roundw
      case rel => exact ⟨k + 1, by omega, by go_num, p5, m5, q5, (hs6 _ (by omega)).trans oR5, oX6, sM6, hR5.kept (fun g e => hs6 g (fun e2 => nD5 (by rw [← e2]; exact e))), by rw [hts.out]; exact hT5.keptb (fun g e => hs6 g (fun e2 => n5 (by rw [← e2]; exact e))), hB6, by simp; exact z5⟩
      case measure => simp [intOf]; omega
    · obtain rfl : k = L.length := by omega
      rw [List.take_length] at hT
      have nlt : ¬ ((L.length : Nat) : Int) < (ds.length : Int) := by have := hl3.out; omega
      go_wp2_with (first
        | (refine wpList_load_row rfl 30 _ rfl _ rfl 30 _ (0, 0) _ oX Try.underlying30 rfl (by kernel_rfl) ?_)
        | (refine wpList_store_own rfl 30 _ _ rfl _ _ rfl rfl 30 _ oR (by kernel_rfl) rfl (by simp [Value.oneCell']) ?_; intro w7 oR7 hN7))
      have nT := oR.ne_rowT hT
      have hT7 : RowT w7 w.heap.size (.slice pt mt ct) L := hT.keptb (fun g e => hN7.other g (fun e2 => nT (by rw [← e2]; exact e)))
      refine bodyPost_ret (v := .tuple #[.agg #[.int .i64 p, .int .i64 c, .int .i64 n, .slice pt mt ct], .int .i64 0]) (results_row_tmp rfl _ _ _ _ _ (0, 0) _ rfl oR7 Try.underlying30 rfl (by kernel_rfl) _ rfl) rfl ⟨pt, mt, ct, rfl, hT7, hB.trans (hN7.below.mono (by omega))⟩
end Go.Proofs.Ytbibmncepjmgcaa
