/- Diagrams with blobs on some of their open lines: how the model lists them. -/
import Derived.Test.YtpjlienelkflhaaRwb
import Derived.Test.YtpjlienelkflhaaKin
import Derived.Test.YtpjlienelkflhaaOpl
import Derived.Test.YtpjlienelkflhaaMark
namespace Go.Proofs.Ytpjlienelkflhaa
open Go.RowKit Go.Lib
set_option linter.unusedVariables false
set_option linter.unusedSimpArgs false
/-- Blobs on some, none or all of the lines of these points, in order. -/
def fl (ms : List Int) : List Int → List Bool → List (List Bool)
  | [], bs => [bs]
  | p :: ps, bs => fl ms ps bs ++ fl ms ps (wbl bs p (mate ms p))
theorem fl_len (ms : List Int) (ps : List Int) : ∀ bs, (fl ms ps bs).length = 2 ^ ps.length := by
  induction ps with
  | nil => intro bs; rfl
  | cons p ps ih => intro bs; rw [fl, List.length_append, ih, ih, List.length_cons, Nat.pow_succ]; omega
theorem fl_16 (ms : List Int) (ps : List Int) : ∀ bs : List Bool, bs.length = 16 → ∀ b ∈ fl ms ps bs, b.length = 16 := by
  induction ps with
  | nil => intro bs h b hb; simp [fl] at hb; subst hb; exact h
  | cons p ps ih =>
    intro bs h b hb
    rw [fl, List.mem_append] at hb
    rcases hb with hb | hb
    · exact ih bs h b hb
    · exact ih _ (by rw [wbl_len]; exact h) b hb
def rws (n : Int) (ms : List Int) (L : List (List Bool)) : List BlR := L.map (fun b => (n, ms, b))
theorem rws_app (n : Int) (ms : List Int) (A B : List (List Bool)) : rws n ms (A ++ B) = rws n ms A ++ rws n ms B := by simp [rws]
/-- What a call that appends leaves as it was. -/
def Fram (v : Value) (w : World) (v' : Value) (w' : World) : Prop :=
  w.heap.size ≤ w'.heap.size ∧ (∀ k cs t, Own w k cs t → v.ownBlock ≠ some k → Own w' k cs t) ∧ (v'.ownBlock = v.ownBlock ∨ ∃ g, w.heap.size ≤ g ∧ v'.ownBlock = some g)
theorem Fram.trans {v v1 v2 : Value} {w w1 w2 : World} (h : Fram v w v1 w1) (h' : Fram v1 w1 v2 w2) : Fram v w v2 w2 := by
  obtain ⟨a1, a2, a3⟩ := h
  obtain ⟨b1, b2, b3⟩ := h'
  refine ⟨Nat.le_trans a1 b1, fun k cs t ho hne => b2 k cs t (a2 k cs t ho hne) ?_, ?_⟩
  · rcases a3 with e | ⟨g, hg, e⟩
    · rw [e]; exact hne
    · rw [e]; intro he; injection he with he; have := ho.lt; omega
  · rcases b3 with e | ⟨g, hg, e⟩
    · rw [e]; exact a3
    · exact .inr ⟨g, Nat.le_trans a1 hg, e⟩
theorem Fram.alloc (v : Value) (w : World) (o : Obj) : Fram v w v (w.alloc o) := ⟨by simp, fun k cs t ho _ => ho.alloc o, .inl rfl⟩
theorem Fram.grown {v v' : Value} {w w' : World} (hg : w.grownBy w' v.ownBlock) (hs : w.heap.size ≤ w'.heap.size) (ha : v'.ownBlock = v.ownBlock ∨ v'.ownBlock = some w.heap.size) : Fram v w v' w' :=
  ⟨hs, fun k cs t ho hne => (hg.block k ho.lt (fun e => hne e.symm)).trans ho, ha.elim .inl (fun e => .inr ⟨_, Nat.le_refl _, e⟩)⟩
theorem RowL.ne {w : World} {base g : Nat} {v : Value} {ds : List BlR} {cs : Array Value} {t : TypeId} (h : RowL w base v ds) (ho : Own w g cs t) (ht : t ≠ 64) : v.ownBlock ≠ some g := by
  intro e
  obtain ⟨_, _, cu, hu⟩ := h.own g e
  have := (show w.heap[g]? = _ from hu).symm.trans ho
  simp at this
  exact ht this.2.symm
theorem RowL.fresh {w : World} {base : Nat} {v : Value} {ds : List BlR} (h : RowL w base v ds) {g : Nat} (hg : w.heap.size ≤ g) : v.ownBlock ≠ some g := by
  intro e
  have := (h.own g e).2.1
  omega
theorem Fram.ne {v v' : Value} {w w' : World} {g : Nat} (h : Fram v w v' w') (hg : g < w.heap.size) (hne : v.ownBlock ≠ some g) : v'.ownBlock ≠ some g := by
  obtain ⟨_, _, e | ⟨k, hk, e⟩⟩ := h
  · rw [e]; exact hne
  · rw [e]; intro he; injection he with he; omega
theorem RowL.cell {w : World} {base : Nat} {v : Value} {ds : List BlR} (h : RowL w base v ds) {a : Addr} (ha : v.ownBlock ≠ some a.block) (u : Value) : RowL (w.setCell a u) base v ds :=
  h.kept (fun g e => by
    obtain ⟨_, _, cs, ho⟩ := h.own g e
    exact (ho.other (fun he => ha (by rw [e, he])) u).trans ho.symm)
theorem Fram.cell {v v' : Value} {w w' : World} (h : Fram v w v' w') {a : Addr} (ha : w.heap.size ≤ a.block) (u : Value) : Fram v w v' (w'.setCell a u) := by
  obtain ⟨h1, h2, h3⟩ := h
  refine ⟨Nat.le_trans h1 (by simp), fun k cs t ho hne => (h2 k cs t ho hne).other (fun e => ?_) u, h3⟩
  have := ho.lt
  omega
def FilPost (base : Nat) (v : Value) (ds : List BlR) (n : Int) (ms : List Int) (A : List (List Bool)) (w : World) (e : Ending) (w' : World) : Prop :=
  ∃ v', e = .returned v' ∧ RowL w' base v' (ds ++ rws n ms A) ∧ Fram v w v' w' ∧ Below base w w'
/-- Points of lines, and where these lines end. -/
def PtOk (ms : List Int) (L : List Int) : Prop := ∀ x ∈ L, 0 ≤ x ∧ x < 16 ∧ 0 ≤ mate ms x ∧ mate ms x < 16
theorem opl_ok {n : Int} {ms : List Int} (h : Net n ms) : PtOk ms (opl n ms) := by
  intro x hx
  unfold opl at hx
  rw [List.mem_map] at hx
  obtain ⟨s, hs, rfl⟩ := hx
  have h2 := (mem_starts.1 hs).1
  have h8 := h.bd.2
  have a := pl_bd n s h8 (by omega) (by omega)
  have q := h.lt s (by omega) (by omega)
  have b := pl_bd n (qq n ms s) h8 q.1 q.2.1
  rw [h.mt s (by omega) (by omega)]
  exact ⟨a.1, a.2.2, b.1, b.2.2⟩
theorem opl_pos {n : Int} {ms : List Int} (h : Net n ms) : 0 < (opl n ms).length := by
  have h1 := h.bd.1
  have : 0 ∈ starts n ms (2 * n).toNat := mem_starts.2 ⟨by omega, rfl⟩
  unfold opl
  rw [List.length_map]
  exact List.length_pos_of_mem this
set_option maxRecDepth 100000 in
set_option maxHeartbeats 4000000 in
theorem fillS_any (n : Int) (ms : List Int) (hms : ms.length = 16) (L : List Int) (sp : List Value) (g cap : Nat) (hL : PtOk ms L) (hL16 : L.length ≤ 16) (m : Nat) : ∀ (k base : Nat) (bs : List Bool) (v : Value) (ds : List BlR) (w : World),
    k + m = L.length → bs.length = 16 → Own w g (scells L sp) 2 → RowL w base v ds → base ≤ w.heap.size → ds.length + 2 ^ m ≤ 2000000 →
    Calls Try.prog 40 #[v, .agg (bcl n ms bs), .slice (some ⟨g, 0, none⟩) L.length cap, .int .i64 k] w (FilPost base v ds n ms (fl ms (L.drop k) bs) w) := by
  induction m with
  | zero =>
    intro k base bs v ds w hk hbs hP hR hb hlen
    obtain rfl : k = L.length := by omega
    rw [List.drop_length]
    have hl := Lib.hid hms
    have hq := Lib.hid hbs
    have hmk := Lib.hid (fun w => mksL n ms bs hms hbs w)
    have hdl : ds.length < 2097152 := by omega
    have hpost := Lib.hid (show ∀ v' w', RowL w' base v' (ds ++ [(n, ms, bs)]) → Fram v w v' w' → Below base w w' → FilPost base v ds n ms (fl ms [] bs) w (.returned v') w' from fun v' w' a b c => ⟨v', rfl, a, b, c⟩)
    obtain ⟨l, hll⟩ : ∃ l, L.length = l := ⟨_, rfl⟩
    rw [hll]
    clear hms hbs hlen hL hll hk hL16
    go_enter Try.func40, Try.ntmps40
    go_wp2_with (first
      | (refine wpList_load_row rfl 64 _ rfl _ rfl 64 _ (0, 0) _ (Own.new w _ _) Try.underlying64 rfl (rowB (b33 _ _ _ (hl.out) (hq.out))) ?_)
      | (refine wpList_mksl rfl 41 (.tmp 14) rfl (.agg (bcl n ms bs)) (.slice (some ⟨w.heap.size + 1, 0, none⟩) 1 1) rfl (by have := hmk.out (w.alloc (.cells (bcl n ms bs) 64)); simpa using this) ?_)
      | (refine wpList_append_rowL rfl (.tmp 13) (.tmp 15) rfl base v ds n ms bs hl.out hq.out rfl ((hR.alloc _).alloc _) (w.heap.size + 1) 1 rfl (Own.at _ _ _ (by simp)) hdl (by simp; omega) ?_; intro v3 w3 hR3 hG3 hA3))
    have b3 : Below base w w3 := (((Below.refl base w).alloc hb _).alloc (by simp; omega) _).grown hG3 (by simp; omega) (fun k e => ((hR.own k e).1))
    have s3 := b3.size
    go_ret
    exact hpost.out _ _ hR3 (((Fram.alloc _ _ _).trans (Fram.alloc _ _ _)).trans (Fram.grown hG3 hG3.size hA3)) b3
  | succ m ih =>
    intro k base bs v ds w hk hbs hP hR hb hlen
    have hkl : k < L.length := by omega
    have hdr : L.drop k = L[k] :: L.drop (k + 1) := List.drop_eq_getElem_cons hkl
    rw [hdr, fl]
    obtain ⟨p0, p16, m0, m16⟩ := hL L[k] (List.getElem_mem hkl)
    have hgk : L.getD k 0 = L[k] := by rw [List.getD_eq_getElem?_getD, List.getElem?_eq_getElem hkl]; rfl
    obtain ⟨p, hp⟩ : ∃ p, L[k] = p := ⟨_, rfl⟩
    rw [hp] at p0 p16 m0 m16 hgk ⊢
    obtain ⟨y, hy⟩ : ∃ y, mate ms p = y := ⟨_, rfl⟩
    rw [hy] at m0 m16 ⊢
    have hpow : ds.length + (2 ^ m + 2 ^ m) ≤ 2000000 := by rw [Nat.pow_succ] at hlen; omega
    have hl := Lib.hid hms
    have hq := Lib.hid hbs
    have hq2 := Lib.hid (show (wbl bs p y).length = 16 by rw [wbl_len]; exact hbs)
    have lA : (rws n ms (fl ms (L.drop (k + 1)) bs)).length = 2 ^ m := by unfold rws; rw [List.length_map, fl_len, List.length_drop]; congr 1; omega
    have i1 := Lib.hid (show ∀ v' w', Own w' g (scells L sp) 2 → RowL w' base v' ds → base ≤ w'.heap.size → Calls Try.prog 40 #[v', .agg (bcl n ms bs), .slice (some ⟨g, 0, none⟩) L.length cap, .int .i64 ((k : Int) + 1)] w' (FilPost base v' ds n ms (fl ms (L.drop (k + 1)) bs) w') from fun v' w' a b c => ih (k + 1) base bs v' ds w' (by omega) hbs a b c (by omega))
    have i2 := Lib.hid (show ∀ v' w', Own w' g (scells L sp) 2 → RowL w' base v' (ds ++ rws n ms (fl ms (L.drop (k + 1)) bs)) → base ≤ w'.heap.size → Calls Try.prog 40 #[v', .agg (bcl n ms (wbl bs p y)), .slice (some ⟨g, 0, none⟩) L.length cap, .int .i64 ((k : Int) + 1)] w' (FilPost base v' (ds ++ rws n ms (fl ms (L.drop (k + 1)) bs)) n ms (fl ms (L.drop (k + 1)) (wbl bs p y)) w') from fun v' w' a b c => ih (k + 1) base (wbl bs p y) v' _ w' (by omega) hq2.out a b c (by rw [List.length_append, lA]; omega))
    obtain ⟨A, hA⟩ : ∃ A, fl ms (L.drop (k + 1)) bs = A := ⟨_, rfl⟩
    obtain ⟨C, hC⟩ : ∃ C, fl ms (L.drop (k + 1)) (wbl bs p y) = C := ⟨_, rfl⟩
    rw [hA] at i1 i2 lA ⊢
    rw [hC] at i2 ⊢
    have hpost := Lib.hid (show ∀ v' w', RowL w' base v' ((ds ++ rws n ms A) ++ rws n ms C) → Fram v w v' w' → Below base w w' → FilPost base v ds n ms (A ++ C) w (.returned v') w' from fun v' w' a b c => ⟨v', rfl, by rw [rws_app, ← List.append_assoc]; exact a, b, c⟩)
    have hck := Lib.hid (show ∀ x : World, Own x g (scells L sp) 2 → x.cell? ⟨g, k, none⟩ = some (.int .i64 p) from fun x h => by rw [h.cell, scells_get _ _ _ hkl, hgk])
    have hmy := Lib.hid hy
    obtain ⟨l, hll⟩ : ∃ l, L.length = l := ⟨_, rfl⟩
    rw [hll] at i1 i2 hkl hL16 ⊢
    have kI : (k : Int) < (l : Int) := by omega
    have kne : ¬ ((k : Int) = (l : Int)) := by omega
    unfold FilPost at i1 i2
    clear hms hbs hlen hL hll hk hdr hgk hp hy hA hC ih
    go_enter Try.func40, Try.ntmps40
    go_upto_region 4 with (first
      | (refine wpList_load_row rfl 64 _ rfl _ rfl 64 _ (0, 0) _ (Own.new w _ _) Try.underlying64 rfl (rowB (b33 _ _ _ (hl.out) (hq.out))) ?_)
      | (go_at_call 40; ((with_reducible refine (i1.out v _ (hP.alloc _) (hR.alloc _) (by simp; omega)).mono ?_); rintro e w2 ⟨v2, rfl, hR2, hF2, hB2⟩)))
    have bx : v.ownBlock ≠ some w.heap.size := hR.fresh (Nat.le_refl _)
    have gx : v.ownBlock ≠ some g := hR.ne hP (by decide)
    have nb : v2.ownBlock ≠ some w.heap.size := hF2.ne (by simp) bx
    have hgl := hP.lt
    refine gen_world (fun x => Own x w.heap.size (bcl n ms bs) 64 ∧ Own x g (scells L sp) 2 ∧ RowL x base v2 (ds ++ rws n ms A) ∧ Fram v w v2 x ∧ Below base w x) ⟨hF2.2.1 _ _ _ (Own.new w _ _) bx, hF2.2.1 _ _ _ (hP.alloc _) gx, hR2, (Fram.alloc _ _ _).trans hF2, ((Below.refl base w).alloc hb _).trans hB2⟩ ?_
    clear hF2 hB2 hR2
    rintro x ⟨hO, hP2, hR2, hF2, hB2⟩
    have c0 := hck.out x hP2
    have c1 : x.cell? ⟨w.heap.size, 17 + p.toNat, none⟩ = some (.bool (bs.getD p.toNat false)) := by rw [hO.cell, bcl_blob _ _ _ hl.out _ (by rw [hq.out]; omega)]
    have f1 := hO.free (17 + p.toNat)
    have hO2 := hO.set (17 + p.toNat) (.bool true)
    rw [bcl_set _ _ _ hl.out] at hO2
    have hP3 := hP2.other (a := ⟨w.heap.size, 17 + p.toNat, none⟩) (by simp; omega) (.bool true)
    have c2 := hck.out _ hP3
    have c3 : (x.setCell ⟨w.heap.size, 17 + p.toNat, none⟩ (.bool true)).cell? ⟨w.heap.size, 1 + p.toNat, none⟩ = some (.int .u8 y) := by
      have := hmy.out
      unfold mate at this
      rw [hO2.cell, bcl_mate _ _ _ _ (by rw [hl.out]; omega), this]
    have c4 : (x.setCell ⟨w.heap.size, 17 + p.toNat, none⟩ (.bool true)).cell? ⟨w.heap.size, 17 + y.toNat, none⟩ = some (.bool ((bs.set p.toNat true).getD y.toNat false)) := by rw [hO2.cell, bcl_blob _ _ _ hl.out _ (by rw [List.length_set, hq.out]; omega)]
    have f2 := hO2.free (17 + y.toNat)
    have hO3 := hO2.set (17 + y.toNat) (.bool true)
    rw [bcl_set _ _ _ hl.out] at hO3
    have K1 := Lib.hid (show Own ((x.setCell ⟨w.heap.size, 17 + p.toNat, none⟩ (.bool true)).setCell ⟨w.heap.size, 17 + y.toNat, none⟩ (.bool true)) w.heap.size (bcl n ms (wbl bs p y)) 64 from hO3)
    have K2 := Lib.hid (hP3.other (a := ⟨w.heap.size, 17 + y.toNat, none⟩) (by simp; omega) (.bool true))
    have K3 := Lib.hid ((hR2.cell (a := ⟨w.heap.size, 17 + p.toNat, none⟩) nb (.bool true)).cell (a := ⟨w.heap.size, 17 + y.toNat, none⟩) nb (.bool true))
    have K4 := Lib.hid ((hF2.cell (a := ⟨w.heap.size, 17 + p.toNat, none⟩) (Nat.le_refl _) (.bool true)).cell (a := ⟨w.heap.size, 17 + y.toNat, none⟩) (Nat.le_refl _) (.bool true))
    have K5 := Lib.hid ((hB2.setCell (p := ⟨w.heap.size, 17 + p.toNat, none⟩) hb (.bool true)).setCell (p := ⟨w.heap.size, 17 + y.toNat, none⟩) hb (.bool true))
    have sx : base ≤ ((x.setCell ⟨w.heap.size, 17 + p.toNat, none⟩ (.bool true)).setCell ⟨w.heap.size, 17 + y.toNat, none⟩ (.bool true)).heap.size := Nat.le_trans hb K5.out.size
    clear hO hO2 hO3 hP2 hP3 hR2 hF2 hB2
    go_wp2_with (first
      | (refine wpList_load_row rfl 64 _ rfl _ rfl 64 _ (0, 0) _ (K1.out) Try.underlying64 rfl (rowB (b33 _ _ _ (hl.out) (hq2.out))) ?_)
      | (go_at_call 40; ((with_reducible refine (i2.out v2 _ K2.out K3.out sx).mono ?_); rintro e w3 ⟨v3, rfl, hR3, hF3, hB3⟩)))
    go_ret
    exact hpost.out _ _ hR3 (K4.out.trans hF3) (K5.out.trans hB3)
end Go.Proofs.Ytpjlienelkflhaa
