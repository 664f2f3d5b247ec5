/- Slices of strings of the call's own, from the nil slice on; the model's list of texts of brackets. -/
import Derived.Test.YtpjlienelkflhaaRwd
import Derived.Test.YtpjlienelkflhaaSpecA
import Derived.Test.YtpjlienelkflhaaApd
namespace Go.Proofs.Ytpjlienelkflhaa
open Go.RowKit Go.Lib
set_option linter.unusedVariables false
set_option linter.unusedSimpArgs false
def RowS (w : World) (base : Nat) (v : Value) (xs : List ByteArray) : Prop := w.ownsRow base 9 1 v xs.length (xs.map Value.string)
theorem RowS.kept {w w' : World} {base : Nat} {v : Value} {xs : List ByteArray} (h : RowS w base v xs) (hs : ∀ g, v.ownBlock = some g → w'.heap[g]? = w.heap[g]?) : RowS w' base v xs := by
  obtain ⟨h1, h2 | ⟨g, cap, cur, rfl, hg, hh, hn, hcap, hsz, htake⟩⟩ := h
  · exact ⟨h1, .inl h2⟩
  · exact ⟨h1, .inr ⟨g, cap, cur, rfl, hg, (hs g rfl).trans hh, hn, hcap, hsz, htake⟩⟩
theorem RowS.own {w : World} {base : Nat} {v : Value} {xs : List ByteArray} (h : RowS w base v xs) : ∀ g, v.ownBlock = some g → base ≤ g ∧ g < w.heap.size ∧ ∃ cs, Own w g cs 9 := by
  intro g e
  obtain ⟨h1, ⟨rfl, _⟩ | ⟨g', cap, cur, rfl, hg, hh, hn, hcap, hsz, htake⟩⟩ := h
  · cases e
  · have hh' : Own w g' cur 9 := hh
    cases e
    exact ⟨hg, hh'.lt, cur, hh'⟩
theorem RowS.alloc {w : World} {base : Nat} {v : Value} {xs : List ByteArray} (h : RowS w base v xs) (o : Obj) : RowS (w.alloc o) base v xs :=
  h.kept (fun g e => by obtain ⟨_, _, cs, ho⟩ := h.own g e; exact (ho.alloc o).trans ho.symm)
theorem RowS.below {w w' : World} {base B : Nat} {v : Value} {xs : List ByteArray} (h : RowS w base v xs) (hb : Below B w w') (hB : w.heap.size ≤ B) : RowS w' base v xs :=
  h.kept (fun g e => by obtain ⟨_, hl, cs, ho⟩ := h.own g e; exact (ho.below hb (Nat.lt_of_lt_of_le hl hB)).trans ho.symm)
theorem RowS.nil (w : World) (base : Nat) : RowS w base (.slice none 0 0) [] := ⟨rfl, .inl ⟨rfl, rfl⟩⟩
theorem RowS.grown {w w' : World} {base g : Nat} {v : Value} {xs : List ByteArray} (h : RowS w base v xs) (hg : w.grownBy w' (some g)) (hne : ∀ k, v.ownBlock = some k → k ≠ g) : RowS w' base v xs :=
  h.kept (fun k e => hg.block k (h.own k e).2.1 (fun he => hne k e (by simpa using he)))
theorem RowS.at {w : World} {base : Nat} {v : Value} {xs : List ByteArray} (h : RowS w base v xs) (h1 : 0 < xs.length) :
    ∃ g cap, v = .slice (some ⟨g, 0, none⟩) xs.length cap ∧ base ≤ g ∧ g < w.heap.size := by
  obtain ⟨_, ⟨rfl, e⟩ | ⟨g, cap, cur, rfl, hg, hh, hn, hcap, hsz, htake⟩⟩ := h
  · omega
  · have hh' : Own w g cur 9 := hh
    exact ⟨g, cap, rfl, hg, hh'.lt⟩
theorem RowS.read {w : World} {base g cap : Nat} {xs : List ByteArray} (h : RowS w base (.slice (some ⟨g, 0, none⟩) xs.length cap) xs) (k : Nat) (hk : k < xs.length) : w.cell? ⟨g, k, none⟩ = some (.string (xs.getD k ByteArray.empty)) := by
  obtain ⟨_, ⟨e, _⟩ | ⟨g', cap', cur, e, hg, hh, hn, hcap, hsz, htake⟩⟩ := h
  · cases e
  · cases e
    have hh' : Own w g cur 9 := hh
    rw [hh'.cell]
    have e : (cur.toList.take (xs.length * 1))[k]? = (xs.map (Value.string))[k]? := by rw [htake]
    rw [List.getElem?_take_of_lt (by omega)] at e
    simpa [hk] using e
theorem infoStrR : (Try.prog.info? 9).map (fun i => (i.zero, i.size, i.bytes)) = some (some (.string ByteArray.empty), 1, 16) := by kernel_rfl
theorem wpList_append_rowS {ops : Array Oper} {rest : List Oper} {o : Oper} {a : Act} {w : World} {Q : Exit → Act → World → Prop} (hgd : o.guard = none) (s x : Operand)
    (ho : o.op = .call { callee := .builtin .append, args := #[s, x], argTypes := #[67, 67] })
    (base : Nat) (v : Value) (xs : List ByteArray) (y : ByteArray) (hs : a.eval s = v) (hi : RowS w base v xs) (g : Nat) (c : Nat)
    (hx : a.eval x = .slice (some ⟨g, 0, none⟩) 1 c) (hy : w.cell? ⟨g, 0, none⟩ = some (.string y)) (hl : xs.length < 2097152) (hbase : base ≤ w.heap.size)
    (h : ∀ v' w', RowS w' base v' (xs ++ [y]) → w.grownBy w' v.ownBlock → wpList Try.prog ops Q rest (a.put o.dst v') w') : wpList Try.prog ops Q (o :: rest) a w := by
  obtain ⟨i0, hi0, hz0, hz1, hz2⟩ := info_parts infoStrR
  refine wpList_append_own_at w hgd s x 67 ho base 9 i0 (.string ByteArray.empty) 1 16 Try.underlying67 hi0 hz0 hz1 hz2 rfl (by decide) _ _ _ hs hi ⟨g, 0, none⟩ 1 c [.string y] hx rfl ?_ (by simp [Value.oneCell']) (by unfold maxLen; omega) (by omega) hbase ?_
  · intro j u hj
    match j, hj with
    | 0, hj =>
      simp at hj; subst hj
      rw [Addr.add_mid]; exact hy
    | j + 1, hj => simp at hj
  · intro v' w' hown hgr hn hat
    refine h v' w' ?_ hgr
    unfold RowS
    rw [List.length_append, List.map_append]; exact hown
def txs : Nat → List UInt8 → Nat → Nat → List (List UInt8)
  | 0, _, _, _ => []
  | f + 1, t, o, r => if o = 0 ∧ r = 0 then [t] else (if 0 < r then txs f (t ++ [40]) (o + 1) (r - 1) else []) ++ (if 0 < o then txs f (t ++ [41]) (o - 1) r else [])
theorem txs_end (f : Nat) (t : List UInt8) : txs (f + 1) t 0 0 = [t] := by rw [txs, if_pos ⟨rfl, rfl⟩]
theorem txs_step (f : Nat) (t : List UInt8) (o r : Nat) (h : ¬ (o = 0 ∧ r = 0)) : txs (f + 1) t o r = (if 0 < r then txs f (t ++ [40]) (o + 1) (r - 1) else []) ++ (if 0 < o then txs f (t ++ [41]) (o - 1) r else []) := by rw [txs, if_neg h]
/-- Both list the same texts. -/
theorem txs_dts (f : Nat) : ∀ (t : List UInt8) (o r : Nat), f = 2 * r + o + 1 → txs f t o r = dts (2 * r + o) o t := by
  induction f with
  | zero => intro t o r h; omega
  | succ f ih =>
    intro t o r h
    by_cases h0 : o = 0 ∧ r = 0
    · obtain ⟨rfl, rfl⟩ := h0
      rw [txs_end]; rfl
    · rw [txs_step _ _ _ _ h0]
      obtain ⟨q, hq⟩ : ∃ q, 2 * r + o = q + 1 := ⟨2 * r + o - 1, by omega⟩
      rw [hq, dts_step]
      congr 1
      · by_cases hr : 0 < r
        · rw [if_pos hr, if_pos (by omega), ih _ _ _ (by omega)]
          congr 1; omega
        · rw [if_neg hr, if_neg (by omega)]
      · by_cases ho : 0 < o
        · rw [if_pos ho, if_pos ho, ih _ _ _ (by omega)]
          congr 1; omega
        · rw [if_neg ho, if_neg ho]
theorem txs_all (n : Nat) : txs (2 * n + 1) [] 0 n = dts (2 * n) 0 [] := txs_dts _ _ _ _ (by omega)
def bsv (x : List UInt8) : ByteArray := ⟨x.toArray⟩
def bsl (L : List (List UInt8)) : List ByteArray := L.map bsv
theorem bsl_app (A B : List (List UInt8)) : bsl (A ++ B) = bsl A ++ bsl B := by simp [bsl]
theorem bsv_app (t : List UInt8) (c : UInt8) : bsv t ++ ⟨#[c]⟩ = bsv (t ++ [c]) := by
  apply ByteArray.ext
  simp [bsv]
theorem bsv_size (t : List UInt8) : (bsv t).size = t.length := by simp [bsv, ByteArray.size]
def TxPost (base : Nat) (xs : List ByteArray) (L : List (List UInt8)) (w : World) (e : Ending) (w' : World) : Prop :=
  ∃ v', e = .returned v' ∧ RowS w' base v' (xs ++ bsl L) ∧ Below base w w'
set_option maxRecDepth 100000 in
set_option maxHeartbeats 4000000 in
theorem txs_any (f : Nat) : ∀ (t : List UInt8) (o r base : Nat) (v : Value) (xs : List ByteArray) (w : World), f = 2 * r + o + 1 → o + r ≤ 100 → t.length + f ≤ 1000 → RowS w base v xs → base ≤ w.heap.size → xs.length + (txs f t o r).length ≤ 100000 →
    Calls Try.prog 43 #[v, .string (bsv t), .int .i64 o, .int .i64 r] w (TxPost base xs (txs f t o r) w) := by
  induction f with
  | zero => intro t o r base v xs w hf; omega
  | succ f ih =>
    intro t o r base v xs w hf ho htl hI hb hlen
    have hts : ¬ 9223372036854775807 < (bsv t).size + 1 := by rw [bsv_size]; omega
    by_cases h0 : o = 0 ∧ r = 0
    · obtain ⟨rfl, rfl⟩ := h0
      rw [txs_end] at hlen ⊢
      have hxl : xs.length < 1000000 := by omega
      clear ih hf hlen htl
      go_enter Try.func43, Try.ntmps43
      go_wp2_with (first
        | (refine wpList_append_rowS rfl (.tmp 15) (.tmp 17) rfl base v xs (bsv t) rfl (hI.alloc _) w.heap.size 1 rfl ((Own.new _ _ _).cell 0) (by omega) (by simp; omega) ?_; intro v2 w2 hI2 hG2))
      go_ret
      refine ⟨v2, rfl, hI2, ((Below.refl base w).alloc hb _).grown hG2 (by simp; omega) (fun k e => (hI.own k e).1)⟩
    · rw [txs_step _ _ _ _ h0] at hlen ⊢
      cases r with
      | zero =>
        cases o with
        | zero => exact absurd ⟨rfl, rfl⟩ h0
        | succ o' =>
          rw [if_neg (by omega)] at hlen ⊢
          obtain ⟨A, hA⟩ : ∃ A : List (List UInt8), [] = A := ⟨_, rfl⟩
          rw [hA] at hlen ⊢
          rw [if_pos (by omega)] at hlen ⊢
          rw [show o' + 1 - 1 = o' by omega] at hlen ⊢
          obtain ⟨C, hC⟩ : ∃ C, txs f (t ++ [41]) o' 0 = C := ⟨_, rfl⟩
          rw [hC] at hlen ⊢
          have i2 : Calls Try.prog 43 #[v, .string (bsv t ++ ⟨#[41]⟩), .int .i64 (o' : Int), .int .i64 0] w (TxPost base xs C w) := by
            have := ih (t ++ [41]) o' 0 base v xs w (by omega) (by omega) (by simp; omega) hI hb (by rw [hC]; rw [List.length_append] at hlen; omega)
            rw [hC, ← bsv_app] at this; exact this
          have i2 := Lib.hid i2
          clear ih hf hlen htl
          go_enter Try.func43, Try.ntmps43
          go_wp2_with (first
            | (go_at_call 43; ((with_reducible refine (i2.out).mono ?_); rintro e w3 ⟨v3, rfl, hI3, hB3⟩)))
          go_ret
          subst hA; exact ⟨v3, rfl, by rw [List.nil_append]; exact hI3, hB3⟩
      | succ r' =>
        cases o with
        | zero =>
          rw [if_pos (by omega)] at hlen ⊢
          rw [show r' + 1 - 1 = r' by omega] at hlen ⊢
          have i1 := ih (t ++ [40]) (0 + 1) r' base v xs w (by omega) (by omega) (by simp; omega) hI hb (by rw [List.length_append] at hlen; omega)
          rw [← bsv_app] at i1
          have i1 : Calls Try.prog 43 #[v, .string (bsv t ++ ⟨#[40]⟩), .int .i64 1, .int .i64 (r' : Int)] w _ := i1
          obtain ⟨A, hA⟩ : ∃ A, txs f (t ++ [40]) (0 + 1) r' = A := ⟨_, rfl⟩
          rw [hA] at i1 hlen ⊢
          have i1 := Lib.hid i1
          rw [if_neg (by omega)] at hlen ⊢
          clear ih hf hlen htl
          go_enter Try.func43, Try.ntmps43
          go_wp2_with (first
            | (go_at_call 43; ((with_reducible refine (i1.out).mono ?_); rintro e w2 ⟨v2, rfl, hI2, hB2⟩)))
          go_ret
          exact ⟨v2, rfl, by rw [List.append_nil]; exact hI2, hB2⟩
        | succ o' =>
          rw [if_pos (by omega)] at hlen ⊢
          rw [show r' + 1 - 1 = r' by omega] at hlen ⊢
          have i1 := ih (t ++ [40]) ((o' + 1) + 1) r' base v xs w (by omega) (by omega) (by simp; omega) hI hb (by rw [List.length_append] at hlen; omega)
          rw [← bsv_app] at i1
          have i1 : Calls Try.prog 43 #[v, .string (bsv t ++ ⟨#[40]⟩), .int .i64 ((o' : Int) + 1 + 1), .int .i64 (r' : Int)] w _ := i1
          obtain ⟨A, hA⟩ : ∃ A, txs f (t ++ [40]) ((o' + 1) + 1) r' = A := ⟨_, rfl⟩
          rw [hA] at i1 hlen ⊢
          have i1 := Lib.hid i1
          rw [if_pos (by omega)] at hlen ⊢
          rw [show o' + 1 - 1 = o' by omega] at hlen ⊢
          obtain ⟨C, hC⟩ : ∃ C, txs f (t ++ [41]) o' (r' + 1) = C := ⟨_, rfl⟩
          rw [hC] at hlen ⊢
          have i2 : ∀ v2 w2, RowS w2 base v2 (xs ++ bsl A) → base ≤ w2.heap.size → Calls Try.prog 43 #[v2, .string (bsv t ++ ⟨#[41]⟩), .int .i64 (o' : Int), .int .i64 ((r' : Int) + 1)] w2 (TxPost base (xs ++ bsl A) C w2) := fun v2 w2 h1 h2 => by
            have := ih (t ++ [41]) o' (r' + 1) base v2 (xs ++ bsl A) w2 (by omega) (by omega) (by simp; omega) h1 h2 (by rw [hC, List.length_append]; rw [List.length_append] at hlen; simp only [bsl, List.length_map]; omega)
            rw [hC, ← bsv_app] at this; exact this
          have i2 := Lib.hid i2
          clear ih hf hlen htl
          go_enter Try.func43, Try.ntmps43
          go_wp2_with (first
            | (go_at_call 43; ((with_reducible refine (i1.out).mono ?_); rintro e w2 ⟨v2, rfl, hI2, hB2⟩))
            | (go_at_call 43; ((with_reducible refine (i2.out v2 w2 hI2 (Nat.le_trans hb hB2.size)).mono ?_); rintro e w3 ⟨v3, rfl, hI3, hB3⟩)))
          go_ret
          exact ⟨v3, rfl, by rw [bsl_app, ← List.append_assoc]; exact hI3, hB2.trans hB3⟩
end Go.Proofs.Ytpjlienelkflhaa
