/- FlipElement: both sides. (Written by genfle.py.) -/
import Derived.Test.YtpmcngmphkegnaaMtm
import Derived.Test.YtpmcngmphkegnaaFlipI
import Derived.Test.YtpmcngmphkegnaaFlipS
import Derived.Test.YtpmcngmphkegnaaScl
namespace Go.Proofs.Ytpmcngmphkegnaa
open Go.RowKit Go.Lib
set_option linter.unusedVariables false
set_option linter.unusedSimpArgs false
/-- A list of mates is a diagram's when its mates match, without crossings. -/
theorem isS_mk {n : Int} {rs : List Int} (h1 : 1 ≤ n) (h8 : n ≤ 8) (h0 : ∀ j : Nat, 2 * n ≤ (j : Int) → rs.getD j 0 = 0) (M : Mt n (mate rs)) (C : NC n (mate rs)) : IsS n rs := by
  refine ⟨⟨h1, h8⟩, fun i gi => ?_, fun i k gi gk => ?_⟩
  · unfold OkAt
    by_cases c : 2 * n ≤ (i : Int)
    · rw [if_pos c]
      unfold mate
      rw [Int.toNat_natCast, h0 i c]
    · rw [if_neg c]
      have b := M.lt i (by omega) (by omega)
      exact ⟨b.2, M.ne i (by omega) (by omega), M.inv i (by omega) (by omega)⟩
  · unfold Cross lo hi
    have bi := M.lt i (by omega) gi
    have bk := M.lt k (by omega) gk
    have ii := M.inv i (by omega) gi
    have ik := M.inv k (by omega) gk
    have c1 := C i k (by omega) gi (by omega) gk
    have c2 := C i (mate rs k) (by omega) gi bk.1 bk.2
    have c3 := C (mate rs i) k bi.1 bi.2 (by omega) gk
    have c4 := C (mate rs i) (mate rs k) bi.1 bi.2 bk.1 bk.2
    rw [ik] at c2 c4
    rw [ii] at c3 c4
    omega
/-- Where the flip leads a point. -/
def sg (n x : Int) : Int := if x < n then x + n else x - n
theorem sg_eq {n x : Int} (h0 : 0 ≤ x) (h2 : x < 2 * n) : (x + n) % (2 * n) = sg n x := by
  unfold sg
  by_cases e : x < n
  · rw [if_pos e]; exact Int.emod_eq_of_lt (by omega) (by omega)
  · rw [if_neg e, show x + n = (x - n) + 2 * n by omega, Int.add_emod_right]; exact Int.emod_eq_of_lt (by omega) (by omega)
theorem sg_sg {n x : Int} (h0 : 0 ≤ x) (h2 : x < 2 * n) : sg n (sg n x) = x := by
  unfold sg; split <;> split <;> omega
theorem pl_sg {n x : Int} (h0 : 0 ≤ x) (h2 : x < 2 * n) : pl n (sg n x) = 2 * n - 1 - pl n x := by
  unfold sg pl; split <;> split <;> omega
theorem flipX_inj (n i j : Int) (hi : 0 ≤ i ∧ i < 2 * n) (hj : 0 ≤ j ∧ j < 2 * n) (h : (i + n) % (2 * n) = (j + n) % (2 * n)) : i = j := by
  rw [sg_eq hi.1 hi.2, sg_eq hj.1 hj.2] at h
  unfold sg at h
  split at h <;> split at h <;> omega
/-- The mates of the flip. -/
def flX (n : Int) (ms : List Int) : List Int := stL (fun i => (i + n) % (2 * n)) ms (2 * n).toNat
theorem flX_len (n : Int) (ms : List Int) : (flX n ms).length = 16 := stL_len _ _ _
theorem flipI_X (n : Int) (ms : List Int) (h : VD (n, ms)) (w : World) :
    Calls Try.prog 66 #[.agg (dcells n ms)] w fun e w' => e = .returned (.tuple #[.agg (dcells n (flX n ms)), .int .i64 0]) ∧ Below w.heap.size w w' := by
  have hIs := (isD_iff n ms h.2.1 h.2.2).1 h.1
  have e := mv_eq_st (f := fun i => (i + n) % (2 * n)) h.2.2 hIs (fun i h0 h2 => flipC_bd n i hIs.1.1 hIs.1.2 h0 h2) (fun i j a b c d h => flipX_inj n i j ⟨a, b⟩ ⟨c, d⟩ h)
  have hI := FlipDiagramI_ok n ms h.2.1 h.2.2 h.1 w
  rw [e] at hI
  exact hI
theorem fleS_call {n : Int} {ms : List Int} (h : VD (n, ms)) (w : World) :
    Calls Try.prog 63 #[.agg (dcells n ms)] w fun e w' => e = .returned (.agg (dcells n (flX n ms))) ∧ Below w.heap.size w w' :=
  flipS_any n ms h.2.1 h.2.2 ((isD_iff n ms h.2.1 h.2.2).1 h.1) w
theorem flX_mate {n : Int} {ms : List Int} (h : VD (n, ms)) {q : Int} (h0 : 0 ≤ q) (h2 : q < 2 * n) : mate (flX n ms) q = sg n (mate ms (sg n q)) := by
  have hIs := (isD_iff n ms h.2.1 h.2.2).1 h.1
  have hn := hIs.1
  have s1 : 0 ≤ sg n q ∧ sg n q < 2 * n := by unfold sg; split <;> omega
  have hm := mate_lt h.2.2 hIs (sg n q) s1.1 s1.2
  have := st_get (n := n) (ms := ms) (f := fun i => (i + n) % (2 * n)) (fun i h0 h2 => flipC_bd n i hn.1 hn.2 h0 h2) (fun i j a b c d h => flipX_inj n i j ⟨a, b⟩ ⟨c, d⟩ h) (2 * n).toNat (by omega) (sg n q) s1.1 (by omega)
  rw [sg_eq s1.1 s1.2, sg_eq hm.1 hm.2, sg_sg h0 h2] at this
  exact this
theorem flX_vd {n : Int} {ms : List Int} (h : VD (n, ms)) : VD (n, flX n ms) := by
  have hIs := (isD_iff n ms h.2.1 h.2.2).1 h.1
  have hn := hIs.1
  have M0 : Mt n (mate ms) := mt_of h.2.2 hIs
  have C0 : NC n (mate ms) := nc_of h.2.2 hIs
  have hz : ∀ j : Nat, 2 * n ≤ (j : Int) → (flX n ms).getD j 0 = 0 := fun j hj =>
    st_out (n := n) (f := fun i => (i + n) % (2 * n)) (fun i h0 h2 => flipC_bd n i hn.1 hn.2 h0 h2) (2 * n).toNat (by omega) j (fun i i0 i2 e => by
      have e : (i + n) % (2 * n) = j := e
      rw [sg_eq i0 i2] at e
      unfold sg at e
      split at e <;> omega)
  have sb : ∀ x, 0 ≤ x → x < 2 * n → 0 ≤ sg n x ∧ sg n x < 2 * n := fun x a b => by unfold sg; split <;> omega
  have M : Mt n (mate (flX n ms)) := {
    lt := fun q h0 h2 => by
      rw [flX_mate h h0 h2]
      have a := sb q h0 h2
      have b := M0.lt _ a.1 a.2
      exact sb _ b.1 b.2
    inv := fun q h0 h2 => by
      have a := sb q h0 h2
      have b := M0.lt _ a.1 a.2
      have c := sb _ b.1 b.2
      rw [flX_mate h h0 h2, flX_mate h c.1 c.2, sg_sg b.1 b.2, M0.inv _ a.1 a.2, sg_sg h0 h2]
    ne := fun q h0 h2 e => by
      have a := sb q h0 h2
      have b := M0.lt _ a.1 a.2
      rw [flX_mate h h0 h2] at e
      have e2 : mate ms (sg n q) = sg n q := by have e3 := congrArg (sg n) e; rw [sg_sg b.1 b.2] at e3; exact e3
      exact M0.ne _ a.1 a.2 e2 }
  have C : NC n (mate (flX n ms)) := by
    intro a u a0 a2 u0 u2 ⟨x, y, z⟩
    have sa := sb a a0 a2
    have su := sb u u0 u2
    have da := M0.lt _ sa.1 sa.2
    have du := M0.lt _ su.1 su.2
    rw [flX_mate h a0 a2, pl_sg da.1 da.2] at y z
    rw [flX_mate h u0 u2, pl_sg du.1 du.2] at z
    have pa := pl_sg sa.1 sa.2
    rw [sg_sg a0 a2] at pa
    have pu := pl_sg su.1 su.2
    rw [sg_sg u0 u2] at pu
    refine C0 (mate ms (sg n u)) (mate ms (sg n a)) du.1 du.2 da.1 da.2 ?_
    rw [M0.inv _ su.1 su.2, M0.inv _ sa.1 sa.2]
    omega
  have hb : Bytes (flX n ms) := by
    intro x hx
    obtain ⟨j, hj, rfl⟩ := List.getElem_of_mem hx
    have g : (flX n ms).getD j 0 = (flX n ms)[j] := by rw [List.getD_eq_getElem?_getD, List.getElem?_eq_getElem hj]; rfl
    rw [← g]
    by_cases c : 2 * n ≤ (j : Int)
    · rw [hz j c]; omega
    · have b := M.lt (j : Int) (by omega) (by omega)
      unfold mate at b
      rw [Int.toNat_natCast] at b
      omega
  exact ⟨(isD_iff n _ (flX_len n ms) hb).2 (isS_mk hn.1 hn.2 hz M C), flX_len n ms, hb⟩
set_option maxRecDepth 100000 in
theorem fleC_enters (args : Array Value) (w : World) : (callFunc 65 args).run Try.prog w = .ok (.enter 65 args) w := by kernel_rfl
set_option maxRecDepth 100000 in
set_option maxHeartbeats 4000000 in
theorem fleC_any (n : Int) (ms : List Int) (h : VD (n, ms)) (w : World) :
    Calls Try.prog 65 (#[.agg (dcells n ms)] ++ #[]) w fun e w' => e = .returned (.tuple #[.agg (dcells n (flX n ms)), .int .i64 0]) ∧ Below w.heap.size w w' := by
  have hl := Lib.hid h.2.1
  have hfl := Lib.hid (fun w => flipI_X n ms h w)
  have hml := Lib.hid (flX_len n ms)
  obtain ⟨F, hF⟩ : ∃ F, flX n ms = F := ⟨_, rfl⟩
  rw [hF] at hfl hml ⊢
  have hz := Lib.hid (d17 0 zeros zlen)
  clear h hF
  show Calls Try.prog _ #[.agg (dcells n ms)] w _
  go_enter Try.func65, Try.ntmps65
  go_wp2_with (first
    | (refine wpList_load_row rfl 68 _ rfl _ rfl 68 _ (0, 0) _ ((Own.new _ _ _).alloc _) Try.underlying68 rfl (row26 (d17 _ _ (hl.out))) ?_)
    | ((go_at_call 66; ((with_reducible refine (hfl.out _).mono ?_); rintro e w1 ⟨rfl, hB1⟩)); have oR1 : Own w1 (w.heap.size + 1) zcells 68 := (Own.at _ _ _ (by simp)).below hB1 (by simp); have b1 : Below w.heap.size w w1 := (((Below.refl w.heap.size w).alloc (Nat.le_refl _) _).alloc (by simp) _).trans (hB1.mono (by simp; omega)); clear hB1)
    | (refine wpList_store_own rfl 68 _ _ rfl _ _ rfl rfl 68 _ (Own.new w1 _ _) (row26 (d17 _ _ (hml.out))) (z_eq (d17 _ _ hml.out)) (dcells_one _ _) ?_; intro w2 hO2 hN2)
    | (refine wpList_load_row rfl 68 _ rfl _ rfl 68 _ (0, 0) _ (hO2) Try.underlying68 rfl (row26 (d17 _ _ (hml.out))) ?_)
    | (refine wpList_store_own rfl 68 _ _ rfl _ _ rfl rfl 68 _ ((oR1.alloc _).only hN2 (by have := oR1.lt; omega)) (row26 (d17 _ _ (hml.out))) (z_eq (d17 _ _ hml.out)) (dcells_one _ _) ?_; intro w3 hO3 hN3))
  refine bodyPost_ret (v := .tuple #[.agg (dcells n F), .int .i64 0]) (results_row_tmp rfl _ _ _ _ _ (0, 0) _ rfl (hO3) Try.underlying68 rfl (row26 (d17 _ _ (hml.out))) _ rfl) rfl (⟨rfl, ((b1.alloc b1.size _).trans (hN2.below.mono b1.size)).trans (hN3.below.mono (by omega))⟩)
end Go.Proofs.Ytpmcngmphkegnaa
