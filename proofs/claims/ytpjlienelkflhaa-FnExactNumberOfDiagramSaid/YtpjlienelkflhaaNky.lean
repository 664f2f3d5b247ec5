/- Maps keyed by diagrams: the keys. -/
import Derived.Test.YtpjlienelkflhaaNud
import Derived.DeepKeys5
import Derived.Maps.Own
import Derived.Maps.OwnOps
import Derived.Maps.Views
import Derived.WalkArith
namespace Go.Proofs.Ytpjlienelkflhaa
open Go.RowKit Go.Lib
open Go.Maps (Keyed)
set_option linter.unusedVariables false
set_option linter.unusedSimpArgs false
theorem keyedD : Keyed Try.prog 30 := Keyed.of_law (deep_law_laid (by kernel_rfl) (m := Try.prog.types.size + 1) (by decide +kernel) (by decide +kernel) (by kernel_rfl) (by kernel_rfl))
theorem kl_int {P : Program} (d : Nat) (t : TypeId) (q : IntKind) (n : Int) (hu : P.underlying t = some (.int q)) (hw : (Lit.int q n).wf = true) : P.keyLits (d + 1) t [.int q n] = some [.int q n] := by
  simp [Program.keyLits, hu, hw]
theorem kl_mates {d : Nat} (ms : List Int) (h : ms.length = 16) (hb : Bytes ms) : Try.prog.keyLits (d + 2) 28 (ms.map (Value.int .u8)) = some (ms.map (Lit.int .u8)) := by
  have hc : Try.prog.cellsOf 28 = 16 := by kernel_rfl
  have hc1 : Try.prog.cellsOf 5 = 1 := by kernel_rfl
  obtain ⟨a0, a1, a2, a3, a4, a5, a6, a7, a8, a9, a10, a11, a12, a13, a14, a15, rfl⟩ := list16 ms h
  have k := fun (x : Int) (hx : 0 ≤ x ∧ x ≤ 255) => kl_int (P := Try.prog) d 5 .u8 x Try.underlying5 (WalkArith.wf_u8 hx)
  have k0 := k a0 (hb a0 (by simp))
  have k1 := k a1 (hb a1 (by simp))
  have k2 := k a2 (hb a2 (by simp))
  have k3 := k a3 (hb a3 (by simp))
  have k4 := k a4 (hb a4 (by simp))
  have k5 := k a5 (hb a5 (by simp))
  have k6 := k a6 (hb a6 (by simp))
  have k7 := k a7 (hb a7 (by simp))
  have k8 := k a8 (hb a8 (by simp))
  have k9 := k a9 (hb a9 (by simp))
  have k10 := k a10 (hb a10 (by simp))
  have k11 := k a11 (hb a11 (by simp))
  have k12 := k a12 (hb a12 (by simp))
  have k13 := k a13 (hb a13 (by simp))
  have k14 := k a14 (hb a14 (by simp))
  have k15 := k a15 (hb a15 (by simp))
  rw [Program.keyLits]
  rotate_right
  exact Try.underlying28
  simp only [hc, hc1]
  rw [if_pos (by rfl), show List.range 16 = [0, 1, 2, 3, 4, 5, 6, 7, 8, 9, 10, 11, 12, 13, 14, 15] from rfl]
  simp only [List.map_cons, List.map_nil, List.mapM_cons, List.mapM_nil, List.drop_succ_cons, List.drop_zero, List.take_succ_cons, List.take_zero, Nat.mul_one, Nat.zero_mul, k0, k1, k2, k3, k4, k5, k6, k7, k8, k9, k10, k11, k12, k13, k14, k15]
  rfl
theorem keyD (n : Int) (ms : List Int) (h : ms.length = 16) (hb : Bytes ms) (hn : 1 ≤ n ∧ n ≤ 8) : ∃ kl, keyOf Try.prog 30 (.agg (dcells n ms)) = some kl := by
  have hk : Try.prog.keyType 30 = true := by kernel_rfl
  have hc : Try.prog.cellsOf 30 = 17 := by kernel_rfl
  have hc1 : Try.prog.cellsOf 2 = 1 := by kernel_rfl
  have hc2 : Try.prog.cellsOf 28 = 16 := by kernel_rfl
  obtain ⟨m, hm⟩ : ∃ m, Try.prog.types.size + 1 = m + 3 := ⟨Try.prog.types.size - 2, by decide +kernel⟩
  have h1 := kl_int (P := Try.prog) (m + 1) 2 .i64 n Try.underlying2 (WalkArith.wf_i64 (by omega))
  have h2 := kl_mates (d := m) ms h hb
  have hs : (dcells n ms).size = 17 := d17 _ _ h
  have h3 : Try.prog.keyLits (m + 3) 30 (.int .i64 n :: ms.map (Value.int .u8)) = some (.int .i64 n :: ms.map (Lit.int .u8)) := by
    rw [Program.keyLits.eq_6]
    rotate_right
    exact Try.underlying30
    simp only [hc]
    rw [if_pos (by simp [h])]
    simp [List.mapM_cons, hc1, hc2, h1, h2, h]
    rw [List.take_of_length_le (by simp [h]), h2]
    simp
  refine ⟨.string (keyBytes (.int .i64 n :: ms.map (Lit.int .u8))), ?_⟩
  unfold keyOf
  rw [Try.underlying30]
  have hf : (Value.agg (dcells n ms)).formed Try.prog 30 = true := by
    unfold Value.formed
    rw [Try.underlying30]
    simp [hc, hs]
  simp only [hk, hf, hm, Bool.and_self, if_true]
  rw [show (Value.agg (dcells n ms)).cells.toList = .int .i64 n :: ms.map (Value.int .u8) by simp [Value.cells, dcells], h3]
  rfl
/-- The key of a diagram. -/
noncomputable def kyD (d : DgR) : Lit := (keyOf Try.prog 30 (.agg (dcells d.1 d.2))).getD (.bool false)
theorem kyD_of {n : Int} {d : DgR} (h : Dgm n d) (hn : 1 ≤ n ∧ n ≤ 8) : keyOf Try.prog 30 (.agg (dcells d.1 d.2)) = some (kyD d) := by
  obtain ⟨kl, hk⟩ := keyD d.1 d.2 h.len h.bytes (by rw [h.size]; exact hn)
  unfold kyD
  rw [hk]; rfl
/-- The map behind k diagrams. -/
noncomputable def mpD (ds : List DgR) : Nat → DataW Unit
  | 0 => .map []
  | k + 1 => (mpD ds k).put (kyD (ds.getD k (0, zeros))) (.lit (.int .i64 k))
theorem mpD_other (ds : List DgR) (kl : Lit) (z : DataW Unit) (m : Nat) (h : ∀ i, i < m → kl ≠ kyD (ds.getD i (0, zeros))) : (mpD ds m).atKey kl z = (mpD ds 0).atKey kl z := by
  induction m with
  | zero => rfl
  | succ m ih =>
    show ((mpD ds m).put (kyD (ds.getD m (0, zeros))) (.lit (.int .i64 m))).atKey kl z = _
    rw [Maps.atKey_put_other (h m (by omega))]; exact ih (fun i hi => h i (by omega))
theorem mpD_map (ds : List DgR) (m : Nat) : Maps.IsMap (mpD ds m) := by
  induction m with
  | zero => exact ⟨[], rfl⟩
  | succ m ih => exact ih.put _ _
theorem mpD_at (ds : List DgR) (K m : Nat) (z : DataW Unit) (hK : K < m) (hk : WideAt.IsKeyLit (kyD (ds.getD K (0, zeros)))) (h : ∀ i, K < i → i < m → kyD (ds.getD K (0, zeros)) ≠ kyD (ds.getD i (0, zeros))) :
    (mpD ds m).atKey (kyD (ds.getD K (0, zeros))) z = .lit (.int .i64 K) := by
  induction m with
  | zero => omega
  | succ m ih =>
    show ((mpD ds m).put (kyD (ds.getD m (0, zeros))) (.lit (.int .i64 m))).atKey (kyD (ds.getD K (0, zeros))) z = _
    by_cases e : K = m
    · subst e
      exact Maps.atKey_put_same (mpD_map ds K) hk _ _
    · rw [Maps.atKey_put_other (h m (by omega) (by omega))]
      exact ih (by omega) (fun i h1 h2 => h i h1 (by omega))
theorem dts_nodup (f : Nat) : ∀ (o : Nat) (t : List UInt8), (dts f o t).Nodup := by
  induction f with
  | zero => intro o t; simp [dts]
  | succ f ih =>
    intro o t
    rw [dts_step, List.nodup_append]
    refine ⟨by split; exact ih _ _; simp, by split; exact ih _ _; simp, fun x hx y hy e => ?_⟩
    subst e
    split at hx
    · split at hy
      · have a := pre_get t x 40 (dts_pre _ _ _ _ hx)
        have b := pre_get t x 41 (dts_pre _ _ _ _ hy)
        rw [a] at b; simp at b
      · simp at hy
    · simp at hx
theorem LI_inj {a b : List UInt8} (h : LI a = LI b) : a = b := by
  have := congrArg (fun l => (strOfNums l).data.toList) h
  simpa [LI_str] using this
theorem pD_inj (n : Nat) (h1 : 1 ≤ n) (h8 : n ≤ 8) (t u : List UInt8) (ht : t ∈ dts (2 * n) 0 []) (hu : u ∈ dts (2 * n) 0 []) (h : pD t = pD u) : t = u := by
  have key : ∀ t, t ∈ dts (2 * n) 0 [] → LI t = LT (pD t).1 (pD t).2 := fun t ht => by
    obtain ⟨hd, hp⟩ := dgm_of n h1 h8 t ht
    have hl := dts_mem _ _ _ _ ht
    rcases hq : pD t with ⟨m, ms⟩
    rw [hq] at hp hd
    have hm : m = (n : Int) := hd.size
    subst hm
    apply List.ext_getElem?
    intro k
    by_cases hk : k < 2 * n
    · have a := LT_get (n : Int) ms k (by omega)
      have b := parse_get t (n : Int) ms hp k (by omega)
      have la : k < (LT n ms).length := by rw [LT_len _ _ (by omega)]; omega
      rw [List.getD_eq_getElem?_getD, List.getElem?_eq_getElem la] at a
      rw [List.getElem?_eq_getElem la]
      have c : (LI t)[k]? = some (((if (k : Int) < qq n ms k then (40 : UInt8) else 41).toNat : Nat) : Int) := by
        unfold LI; rw [List.getElem?_map, b]; rfl
      rw [c]
      simp only [Option.getD_some] at a
      rw [a]
      split <;> rfl
    · rw [List.getElem?_eq_none (by rw [LI_len, hl]; simp; omega), List.getElem?_eq_none (by rw [LT_len _ _ (by omega)]; omega)]
  exact LI_inj (by rw [key t ht, key u hu, h])
theorem allD_inj (n : Nat) (h1 : 1 ≤ n) (h8 : n ≤ 8) (i j : Nat) (hi : i < (allD n).length) (hj : j < (allD n).length) (h : (allD n).getD i (0, zeros) = (allD n).getD j (0, zeros)) : i = j := by
  have hi' : i < (dts (2 * n) 0 []).length := by unfold allD at hi; rwa [List.length_map] at hi
  have hj' : j < (dts (2 * n) 0 []).length := by unfold allD at hj; rwa [List.length_map] at hj
  rw [allD_at n i _ (List.getElem?_eq_getElem hi'), allD_at n j _ (List.getElem?_eq_getElem hj')] at h
  have := pD_inj n h1 h8 _ _ (List.getElem_mem hi') (List.getElem_mem hj') h
  exact (List.getElem?_inj hi' (dts_nodup _ _ _)).1 (by rw [List.getElem?_eq_getElem hi', List.getElem?_eq_getElem hj', this])
theorem kyD_ne (n : Nat) (h1 : 1 ≤ n) (h8 : n ≤ 8) (i j : Nat) (hi : i < (allD n).length) (hj : j < (allD n).length) (hne : i ≠ j) : kyD ((allD n).getD i (0, zeros)) ≠ kyD ((allD n).getD j (0, zeros)) := by
  intro e
  have a := kyD_of (allD_get n h1 h8 i hi) (by omega)
  have b := kyD_of (allD_get n h1 h8 j hj) (by omega)
  rw [e] at a
  have c := keyedD.inj a b
  injection c with c
  have c := congrArg Array.toList c
  refine hne (allD_inj n h1 h8 i j hi hj (Prod.ext ?_ ?_))
  · have := congrArg (fun l => l.head?) c
    simpa [dcells] using this
  · have := congrArg List.tail c
    simp only [dcells] at this
    have h2 : (((allD n).getD i (0, zeros)).2.map (Value.int .u8)) = (((allD n).getD j (0, zeros)).2.map (Value.int .u8)) := by simpa using this
    exact (List.map_inj_right (fun x y h => by injection h)).1 h2
end Go.Proofs.Ytpjlienelkflhaa
