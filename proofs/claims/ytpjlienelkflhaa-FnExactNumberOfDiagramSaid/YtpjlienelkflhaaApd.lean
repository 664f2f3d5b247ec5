/- The program's list of all diagrams. -/
import Derived.Test.YtpjlienelkflhaaRwd
import Derived.Test.YtpjlienelkflhaaBlp
namespace Go.Proofs.Ytpjlienelkflhaa
open Go.RowKit Go.Lib
set_option linter.unusedVariables false
set_option linter.unusedSimpArgs false
/-- All texts with r letters to come, while o brackets are open. -/
def dts : Nat → Nat → List UInt8 → List (List UInt8)
  | 0, _, t => [t]
  | r + 1, o, t => (if o < r + 1 then dts r (o + 1) (t ++ [40]) else []) ++ (if 0 < o then dts r (o - 1) (t ++ [41]) else [])
theorem dts_step (r o : Nat) (t : List UInt8) : dts (r + 1) o t = (if o < r + 1 then dts r (o + 1) (t ++ [40]) else []) ++ (if 0 < o then dts r (o - 1) (t ++ [41]) else []) := rfl
/-- The diagram of a text, or the zero value. -/
def pD (t : List UInt8) : DgR := match parse t with | some q => q | none => (0, zeros)
theorem pD_len (t : List UInt8) : (pD t).2.length = 16 := by
  unfold pD
  cases h : parse t with
  | none => rfl
  | some q => obtain ⟨n, ms⟩ := q; exact parse_len t n ms h
theorem pD_LD (L : List (List UInt8)) : LD16 (L.map pD) := by
  intro d hd
  rw [List.mem_map] at hd
  obtain ⟨t, _, rfl⟩ := hd
  exact pD_len t
theorem LI_app (t : List UInt8) (c : UInt8) : LI (t ++ [c]) = LI t ++ [((c.toNat : Nat) : Int)] := by simp [LI]
def ApPost (base gb N : Nat) (n : Int) (ds : List DgR) (t : List UInt8) (L : List (List UInt8)) (w : World) (e : Ending) (w' : World) : Prop :=
  ∃ v', e = .returned v' ∧ RowD w' base v' (ds ++ L.map pD) ∧ Bys w' base gb N (LI t) ∧ Below base w w'
theorem bys_ne_rowD {w : World} {base base' g cap : Nat} {xs : List Int} {v : Value} {ds : List DgR} (hb : Bys w base' g cap xs) (hr : RowD w base v ds) : ∀ k, v.ownBlock = some k → g ≠ k := by
  intro k e he
  subst he
  obtain ⟨_, _, cs, ho⟩ := hr.own g e
  obtain ⟨_, _, _, cur, hc, _⟩ := hb
  have := (show w.heap[g]? = _ from ho).symm.trans hc
  simp at this
theorem RowD.grown {w w' : World} {base g : Nat} {v : Value} {ds : List DgR} (h : RowD w base v ds) (hg : w.grownBy w' (some g)) (hne : ∀ k, v.ownBlock = some k → k ≠ g) : RowD w' base v ds :=
  h.kept (fun k e => hg.block k (h.own k e).2.1 (fun he => hne k e (by simpa using he)))
theorem Bys.grownO {w w' : World} {base g cap : Nat} {xs : List Int} {row : Option Nat} (h : Bys w base g cap xs) (hg : w.grownBy w' row) (hne : row ≠ some g) : Bys w' base g cap xs := by
  obtain ⟨h1, h2, h3, cur, ho, hs, ht⟩ := h
  exact ⟨h1, h2, h3, cur, (hg.block g (Own.lt ho) (fun e => hne e.symm)).trans ho, hs, ht⟩
set_option maxRecDepth 100000 in
set_option maxHeartbeats 4000000 in
theorem apd_any (N : Nat) (n : Int) (hN : (N : Int) = 2 * n) (h1 : 1 ≤ n) (h8 : n ≤ 8) (r : Nat) : ∀ (o : Nat) (t : List UInt8) (base gb : Nat) (v : Value) (ds : List DgR) (w : World), o ≤ r → (o + r) % 2 = 0 → t.length + r = N → Bys w base gb N (LI t) → RowD w base v ds → base ≤ w.heap.size → ds.length + (dts r o t).length ≤ 100000 →
    Calls Try.prog 44 #[v, .int .i64 n, .slice (some ⟨gb, 0, none⟩) t.length N, .int .i64 o] w (ApPost base gb N n ds t (dts r o t) w) := by
  induction r with
  | zero =>
    intro o t base gb v ds w ho hpar htl hI hR hb hlen
    obtain rfl : o = 0 := by omega
    obtain ⟨K, hK⟩ : ∃ K, t.length = K := ⟨_, rfl⟩
    have hKN : K = N := by omega
    subst hKN
    have hmsl := Lib.hid (pD_len t)
    have hlm := Lib.hid (show (LI t).length = K by rw [LI_len, hK])
    have hlen' := hlm.out
    obtain ⟨S, hS⟩ : ∃ S, strOfNums (LI t) = S := ⟨_, rfl⟩
    have hSd : S.data.toList = t := by rw [← hS, LI_str]
    have hSs : S.size ≤ maxLen := by
      have : S.data.toList.length = t.length := by rw [hSd]
      rw [size_list] at this
      rw [this, hK]; unfold maxLen; omega
    have hcv : ∀ w' : World, Bys w' base gb K (LI t) → (convert 70 9 (.slice (some ⟨gb, 0, none⟩) K K)).run Try.prog w' = .ok (.string S) w' := fun w' hI => by
      obtain ⟨_, _, _, cur, hcur, hcs, hct⟩ := hI
      have := run_convert_bytes_arg w' 70 5 Try.underlying70 Try.underlying5 gb 0 K K (LI t) hlen'
        (fun i hi => by
          rw [Nat.zero_add, hcur.cell]
          have e : (cur.toList.take (LI t).length)[i]? = ((LI t).map (Value.int .u8))[i]? := by rw [hct]
          rw [List.getElem?_take_of_lt (by rw [hlen']; exact hi)] at e
          simpa [show i < (LI t).length by rw [hlen']; exact hi] using e) 9 Try.underlying9
      rw [hS] at this; exact this
    have hcv0 := hcv w hI
    have hd := Lib.hid (fun w => (dot_any S w hSs).mono fun e w' (hd : DotPost S w e w') => show (∃ bb, e = .returned (.tuple #[.agg (dcells (pD t).1 (pD t).2), .bool bb])) ∧ Below w.heap.size w w' from ⟨by rw [hd.1, hSd]; unfold pD; cases parse t with | none => exact ⟨false, rfl⟩ | some q => exact ⟨true, rfl⟩, hd.2⟩)
    have hsub : K - K = 0 := by omega
    have hdl : ds.length < 2097152 := by omega
    have hmk := Lib.hid (fun w => mksD (pD t).1 (pD t).2 (pD_len t) w)
    have hpost := Lib.hid (show ∀ v' w', RowD w' base v' (ds ++ [((pD t).1, (pD t).2)]) → Bys w' base gb K (LI t) → Below base w w' → ApPost base gb K n ds t (dts 0 0 t) w (.returned v') w' from fun v' w' a b c => ⟨v', rfl, a, b, c⟩)
    obtain ⟨pn, hpn⟩ : ∃ x, (pD t).1 = x := ⟨_, rfl⟩
    obtain ⟨pm, hpm⟩ : ∃ x, (pD t).2 = x := ⟨_, rfl⟩
    rw [hpn, hpm] at hd hmk hpost
    rw [hpm] at hmsl
    have hNI : (K : Int) = 2 * n := hN
    have z2 : IntKind.i64.wrap (2 * n) = 2 * n := IntWalk.i64_in _ (by omega)
    have zz : 2 * n - (K : Int) = 0 := by omega
    have hIl := hI.lt
    have hRb := hR.own
    clear hcv hSd hSs hS hlen' hpn hpm hlen hN htl ho hpar hNI
    go_enter Try.func44, Try.ntmps44
    go_wp2_with (first
      | (go_at_call 48; ((with_reducible refine (hd.out _).mono ?_); rintro e w1 ⟨⟨bb, rfl⟩, hB1⟩; have hI1 := hI.below hB1 hIl; have hR1 := hR.below hB1 (Nat.le_refl _); have b1 : Below base w w1 := hB1.mono hb))
      | (refine wpList_store_own rfl 30 _ _ rfl _ _ rfl rfl 30 _ (Own.new w1 _ _) (row26 (d17 _ _ (hmsl.out))) (z_eq (d17 _ _ hmsl.out)) (dcells_one _ _) ?_; intro w2 hO2 hN2)
      | (refine wpList_load_row rfl 30 _ rfl _ rfl 30 _ (0, 0) _ (hO2) Try.underlying30 rfl (row26 (d17 _ _ (hmsl.out))) ?_)
      | (refine wpList_mksl rfl 22 (.tmp 26) rfl (.agg (dcells pn pm)) (.slice (some ⟨w2.heap.size, 0, none⟩) 1 1) rfl (hmk.out w2) ?_)
      | (refine wpList_append_rowD rfl (.tmp 25) (.tmp 27) rfl base v ds pn pm hmsl.out rfl (((hR1.alloc _).kept (fun g e => hN2.other g (Nat.ne_of_lt (hR1.own g e).2.1))).alloc _) w2.heap.size 1 rfl (Own.new _ _ _) hdl (by have := Nat.le_trans hb b1.size; have := hN2.size; simp at this; simp; omega) ?_; intro v3 w3 hR3 hG3))
    have hl1 := hI1.lt
    have s1 : base ≤ w1.heap.size := Nat.le_trans hb b1.size
    have s2 : w2.heap.size = w1.heap.size + 1 := by rw [hN2.size]; simp
    have b2 : Below base w w2 := (b1.alloc s1 _).trans (hN2.below.mono s1)
    have b3 : Below base w w3 := (b2.alloc (by omega) _).grown hG3 (by simp; omega) (fun k e => ((hR1.own k e).1))
    have hI2 : Bys w2 base gb K (LI t) := (hI1.alloc _).only hN2 (Nat.ne_of_lt hl1)
    have hI3 : Bys w3 base gb K (LI t) := (hI2.alloc _).grownO hG3 (fun e => by
      exact bys_ne_rowD hI1 hR1 gb e rfl)
    go_ret
    exact hpost.out _ _ hR3 hI3 b3
  | succ r ih =>
    intro o t base gb v ds w ho hpar htl hI hR hb hlen
    obtain ⟨K, hK⟩ : ∃ K, t.length = K := ⟨_, rfl⟩
    have hlm := Lib.hid (show (LI t).length = K by rw [LI_len, hK])
    have hm40 := Lib.hid (show LI t ++ [40] = LI (t ++ [40]) by rw [LI_app]; rfl)
    have hm41 := Lib.hid (show LI t ++ [41] = LI (t ++ [41]) by rw [LI_app]; rfl)
    have hl40 : (t ++ [(40 : UInt8)]).length = K + 1 := by simp [hK]
    have hl41 : (t ++ [(41 : UInt8)]).length = K + 1 := by simp [hK]
    have hroom : (LI t).length + 1 ≤ N := by rw [hlm.out]; omega
    have hKN : K + (r + 1) = N := by omega
    have nz : ¬ 2 * n - (K : Int) = 0 := by omega
    have nr : 2 * n - (K : Int) = (r : Int) + 1 := by omega
    have hrr : ((r : Int) + 1 == 0) = false := by simp only [beq_eq_false_iff_ne, ne_eq]; omega
    have oI : (o : Int) ≤ (r : Int) + 1 := by omega
    rw [dts_step] at hlen ⊢
    by_cases c1 : o < r + 1
    · rw [if_pos c1] at hlen ⊢
      have c1I : (o : Int) < (r : Int) + 1 := by omega
      obtain ⟨A, hA⟩ : ∃ A, dts r (o + 1) (t ++ [40]) = A := ⟨_, rfl⟩
      rw [hA] at hlen ⊢
      have i1 : ∀ w1 v1 ds1, Bys w1 base gb N (LI (t ++ [40])) → RowD w1 base v1 ds1 → base ≤ w1.heap.size → ds1.length + A.length ≤ 100000 → Calls Try.prog 44 #[v1, .int .i64 n, .slice (some ⟨gb, 0, none⟩) (K + 1) N, .int .i64 ((o : Int) + 1)] w1 (ApPost base gb N n ds1 (t ++ [40]) A w1) := fun w1 v1 ds1 a b c d => by
        have := ih (o + 1) (t ++ [40]) base gb v1 ds1 w1 (by omega) (by omega) (by rw [hl40]; omega) a b c (by rw [hA]; exact d)
        rw [hA, hl40] at this
        exact this
      have i1 := Lib.hid i1
      have hlA : ds.length + A.length ≤ 100000 := by rw [List.length_append] at hlen; omega
      cases o with
      | zero =>
        rw [if_neg (by omega)] at hlen ⊢
        have i1 := Lib.hid (show ∀ w1 v1 ds1, Bys w1 base gb N (LI (t ++ [40])) → RowD w1 base v1 ds1 → base ≤ w1.heap.size → ds1.length + A.length ≤ 100000 → Calls Try.prog 44 #[v1, .int .i64 n, .slice (some ⟨gb, 0, none⟩) (K + 1) N, .int .i64 1] w1 (ApPost base gb N n ds1 (t ++ [40]) A w1) from i1.out)
        have hpost := Lib.hid (show ∀ v' w', RowD w' base v' (ds ++ A.map pD) → Bys w' base gb N (LI t) → Below base w w' → ApPost base gb N n ds t (A ++ []) w (.returned v') w' from fun v' w' a b c => ⟨v', rfl, by rw [List.append_nil]; exact a, b, c⟩)
        clear ih hlen hA
        rw [hK]
        go_enter Try.func44, Try.ntmps44
        go_wp2_with (first
          | (refine wpList_append_room rfl (.tmp 34) (.tmp 35) rfl base gb N (LI t) 40 (by unfold bval; rw [hlm.out]; rfl) (hI.alloc _) ⟨w.heap.size, 0, none⟩ 1 rfl ((Own.new _ _ _).cell 0) hroom ?_; intro w1 hI1 hG1; rw [hm40.out] at hI1; have hv1 : bval gb N (LI t ++ [40]) = .slice (some ⟨gb, 0, none⟩) (K + 1) N := (by unfold bval; rw [List.length_append, hlm.out]; rfl); rw [hv1]; have hR1 : RowD w1 base v ds := (hR.alloc _).grown hG1 (fun k e he => bys_ne_rowD hI hR k e he.symm); have b1 : Below base w w1 := ((Below.refl base w).alloc hb _).grown hG1 (by simp; omega) (fun k e => by have := hI.1; simp at e; omega))
          | (go_at_call 44; ((with_reducible refine (i1.out w1 v ds hI1 hR1 (Nat.le_trans hb b1.size) hlA).mono ?_); rintro e w2 ⟨v2, rfl, hR2, hI2, hB2⟩)))
        go_ret
        exact hpost.out _ _ hR2 (by rw [← hm40.out] at hI2; exact hI2.pop) (b1.trans hB2)
      | succ o' =>
        rw [if_pos (by omega)] at hlen ⊢
        rw [show o' + 1 - 1 = o' by omega] at hlen ⊢
        obtain ⟨C, hC⟩ : ∃ C, dts r o' (t ++ [41]) = C := ⟨_, rfl⟩
        rw [hC] at hlen ⊢
        have i1 := Lib.hid (show ∀ w1 v1 ds1, Bys w1 base gb N (LI (t ++ [40])) → RowD w1 base v1 ds1 → base ≤ w1.heap.size → ds1.length + A.length ≤ 100000 → Calls Try.prog 44 #[v1, .int .i64 n, .slice (some ⟨gb, 0, none⟩) (K + 1) N, .int .i64 ((o' : Int) + 1 + 1)] w1 (ApPost base gb N n ds1 (t ++ [40]) A w1) from by have := i1.out; simpa using this)
        have i2 : ∀ w1 v1 ds1, Bys w1 base gb N (LI (t ++ [41])) → RowD w1 base v1 ds1 → base ≤ w1.heap.size → ds1.length + C.length ≤ 100000 → Calls Try.prog 44 #[v1, .int .i64 n, .slice (some ⟨gb, 0, none⟩) (K + 1) N, .int .i64 o'] w1 (ApPost base gb N n ds1 (t ++ [41]) C w1) := fun w1 v1 ds1 a b c d => by
          have := ih o' (t ++ [41]) base gb v1 ds1 w1 (by omega) (by omega) (by rw [hl41]; omega) a b c (by rw [hC]; exact d)
          rw [hC, hl41] at this
          exact this
        have i2 := Lib.hid i2
        have hlC : (ds ++ A.map pD).length + C.length ≤ 100000 := by rw [List.length_append] at hlen; rw [List.length_append, List.length_map]; omega
        have hpost := Lib.hid (show ∀ v' w', RowD w' base v' ((ds ++ A.map pD) ++ C.map pD) → Bys w' base gb N (LI t) → Below base w w' → ApPost base gb N n ds t (A ++ C) w (.returned v') w' from fun v' w' a b c => ⟨v', rfl, by rw [List.map_append, ← List.append_assoc]; exact a, b, c⟩)
        have oo : ¬ ((o' : Int) + 1 ≤ 0) := by omega
        clear ih hlen hA hC
        rw [hK]
        go_enter Try.func44, Try.ntmps44
        go_wp2_with (first
          | (refine wpList_append_room rfl (.tmp 34) (.tmp 35) rfl base gb N (LI t) 40 (by unfold bval; rw [hlm.out]; rfl) (hI.alloc _) ⟨w.heap.size, 0, none⟩ 1 rfl ((Own.new _ _ _).cell 0) hroom ?_; intro w1 hI1 hG1; rw [hm40.out] at hI1; have hv1 : bval gb N (LI t ++ [40]) = .slice (some ⟨gb, 0, none⟩) (K + 1) N := (by unfold bval; rw [List.length_append, hlm.out]; rfl); rw [hv1]; have hR1 : RowD w1 base v ds := (hR.alloc _).grown hG1 (fun k e he => bys_ne_rowD hI hR k e he.symm); have b1 : Below base w w1 := ((Below.refl base w).alloc hb _).grown hG1 (by simp; omega) (fun k e => by have := hI.1; simp at e; omega))
          | (refine wpList_append_room rfl (.tmp 44) (.tmp 45) rfl base gb N (LI t) 41 (by unfold bval; rw [hlm.out]; rfl) (hI2b.alloc _) ⟨w2.heap.size, 0, none⟩ 1 rfl ((Own.new _ _ _).cell 0) hroom ?_; intro w3 hI3 hG3; rw [hm41.out] at hI3; have hv3 : bval gb N (LI t ++ [41]) = .slice (some ⟨gb, 0, none⟩) (K + 1) N := (by unfold bval; rw [List.length_append, hlm.out]; rfl); rw [hv3]; have hR3 : RowD w3 base v2 (ds ++ A.map pD) := (hR2.alloc _).grown hG3 (fun k e he => bys_ne_rowD hI2b hR2 k e he.symm); have b3 : Below base w w3 := (b2.alloc (Nat.le_trans hb b2.size) _).grown hG3 (by simp; have := b2.size; omega) (fun k e => by have := hI2b.1; simp at e; omega))
          | (go_at_call 44; ((with_reducible refine (i1.out w1 v ds hI1 hR1 (Nat.le_trans hb b1.size) hlA).mono ?_); rintro e w2 ⟨v2, rfl, hR2, hI2, hB2⟩; have b2 := b1.trans hB2; have hI2b : Bys w2 base gb N (LI t) := (by rw [← hm40.out] at hI2; exact hI2.pop)))
          | (go_at_call 44; ((with_reducible refine (i2.out w3 v2 _ hI3 hR3 (Nat.le_trans hb b3.size) hlC).mono ?_); rintro e w4 ⟨v4, rfl, hR4, hI4, hB4⟩)))
        go_ret
        exact hpost.out _ _ hR4 (by rw [← hm41.out] at hI4; exact hI4.pop) (b3.trans hB4)
    · rw [if_neg c1] at hlen ⊢
      have c1I : ¬ ((o : Int) < (r : Int) + 1) := by omega
      cases o with
      | zero => omega
      | succ o' =>
        rw [if_pos (by omega)] at hlen ⊢
        rw [show o' + 1 - 1 = o' by omega] at hlen ⊢
        obtain ⟨C, hC⟩ : ∃ C, dts r o' (t ++ [41]) = C := ⟨_, rfl⟩
        rw [hC, List.nil_append] at hlen ⊢
        have i2 : ∀ w1 v1 ds1, Bys w1 base gb N (LI (t ++ [41])) → RowD w1 base v1 ds1 → base ≤ w1.heap.size → ds1.length + C.length ≤ 100000 → Calls Try.prog 44 #[v1, .int .i64 n, .slice (some ⟨gb, 0, none⟩) (K + 1) N, .int .i64 o'] w1 (ApPost base gb N n ds1 (t ++ [41]) C w1) := fun w1 v1 ds1 a b c d => by
          have := ih o' (t ++ [41]) base gb v1 ds1 w1 (by omega) (by omega) (by rw [hl41]; omega) a b c (by rw [hC]; exact d)
          rw [hC, hl41] at this
          exact this
        have i2 := Lib.hid i2
        have hpost := Lib.hid (show ∀ v' w', RowD w' base v' (ds ++ C.map pD) → Bys w' base gb N (LI t) → Below base w w' → ApPost base gb N n ds t C w (.returned v') w' from fun v' w' a b c => ⟨v', rfl, a, b, c⟩)
        have oo : ¬ ((o' : Int) + 1 ≤ 0) := by omega
        clear ih hC
        rw [hK]
        go_enter Try.func44, Try.ntmps44
        go_wp2_with (first
          | (refine wpList_append_room rfl (.tmp 44) (.tmp 45) rfl base gb N (LI t) 41 (by unfold bval; rw [hlm.out]; rfl) (hI.alloc _) ⟨w.heap.size, 0, none⟩ 1 rfl ((Own.new _ _ _).cell 0) hroom ?_; intro w1 hI1 hG1; rw [hm41.out] at hI1; have hv1 : bval gb N (LI t ++ [41]) = .slice (some ⟨gb, 0, none⟩) (K + 1) N := (by unfold bval; rw [List.length_append, hlm.out]; rfl); rw [hv1]; have hR1 : RowD w1 base v ds := (hR.alloc _).grown hG1 (fun k e he => bys_ne_rowD hI hR k e he.symm); have b1 : Below base w w1 := ((Below.refl base w).alloc hb _).grown hG1 (by simp; omega) (fun k e => by have := hI.1; simp at e; omega))
          | (go_at_call 44; ((with_reducible refine (i2.out w1 v ds hI1 hR1 (Nat.le_trans hb b1.size) hlen).mono ?_); rintro e w2 ⟨v2, rfl, hR2, hI2, hB2⟩)))
        go_ret
        exact hpost.out _ _ hR2 (by rw [← hm41.out] at hI2; exact hI2.pop) (b1.trans hB2)
theorem dts_len (n : Nat) (h1 : 1 ≤ n) (h8 : n ≤ 8) : (dts (2 * n) 0 []).length ≤ 1430 := by
  have h : n = 1 ∨ n = 2 ∨ n = 3 ∨ n = 4 ∨ n = 5 ∨ n = 6 ∨ n = 7 ∨ n = 8 := by omega
  rcases h with rfl | rfl | rfl | rfl | rfl | rfl | rfl | rfl <;> decide +kernel
theorem mk2n (n : Nat) (h1 : 1 ≤ n) (h8 : n ≤ 8) : ∀ w : World, (Instr.makeSlice 70 (.int .i64 0) (.int .i64 (2 * (n : Int)))).run Try.prog w = .ok (.slice (some ⟨w.heap.size, 0, none⟩) 0 (2 * n)) (w.alloc (.cells (mcells (List.replicate (2 * n) 0)) 5)) := by
  have h : n = 1 ∨ n = 2 ∨ n = 3 ∨ n = 4 ∨ n = 5 ∨ n = 6 ∨ n = 7 ∨ n = 8 := by omega
  rcases h with rfl | rfl | rfl | rfl | rfl | rfl | rfl | rfl <;> (intro w; kernel_rfl)
/-- All diagrams of a size, in order. -/
def allD (n : Nat) : List DgR := (dts (2 * n) 0 []).map pD
def LdPost (n : Nat) (w : World) (e : Ending) (w' : World) : Prop := ∃ v', e = .returned v' ∧ RowD w' w.heap.size v' (allD n) ∧ Below w.heap.size w w'
set_option maxRecDepth 100000 in
theorem ldI_any (n : Nat) (h1 : 1 ≤ n) (h8 : n ≤ 8) (w : World) :
    Calls Try.prog 28 #[.int .i64 n] w (LdPost n w) := by
  have hmk := mk2n n h1 h8
  have ha := Lib.hid (show ∀ gb w' base, Bys w' base gb (2 * n) (LI []) → base ≤ w'.heap.size → Calls Try.prog 44 #[.slice none 0 0, .int .i64 n, .slice (some ⟨gb, 0, none⟩) 0 (2 * n), .int .i64 0] w' (ApPost base gb (2 * n) n [] [] (dts (2 * n) 0 []) w') from fun gb w' base hI hb => apd_any (2 * n) n (by omega) (by omega) (by omega) (2 * n) 0 [] base gb (.slice none 0 0) [] w' (by omega) (by omega) (by simp) hI (RowD.nil _ _) hb (by have := dts_len n h1 h8; simp; omega))
  go_enter Try.func28, Try.ntmps28
  go_wp2_with (first
    | (go_at_call 44; ((with_reducible refine (ha.out w.heap.size (w.alloc (.cells (mcells (List.replicate (2 * n) 0)) 5)) w.heap.size (Bys.new _ _ _ _ (Nat.le_refl _) rfl (by unfold maxLen; omega) _ (by rw [mcells_size]; simp)) (by simp)).mono ?_); rintro e w1 ⟨v1, rfl, hR1, hI1, hB1⟩)))
  go_ret
  exact ⟨v1, rfl, by rw [List.nil_append] at hR1; exact hR1, ((Below.refl _ _).alloc (Nat.le_refl _) _).trans hB1⟩
end Go.Proofs.Ytpjlienelkflhaa
