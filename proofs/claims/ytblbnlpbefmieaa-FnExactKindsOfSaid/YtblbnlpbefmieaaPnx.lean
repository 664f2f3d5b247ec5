/- The next place of a part: the program's reading. -/
import Derived.Test.YtblbnlpbefmieaaPla
namespace Go.Proofs.Ytblbnlpbefmieaa
open Go.RowKit
set_option linter.unusedVariables false
def rot (a : List Int) (m k : Nat) : List Int := (List.range m).map fun d => a.getD ((k + 1 + d) % m) 0
theorem rot_len (a : List Int) (m k : Nat) : (rot a m k).length = m := by simp [rot]
theorem rot_get (a : List Int) (m k d : Nat) (h : d < m) : (rot a m k).getD d 0 = a.getD ((k + 1 + d) % m) 0 := by
  unfold rot
  rw [List.getD_eq_getElem?_getD, List.getElem?_map, List.getElem?_range h]
  rfl
/-- The place behind k that has the same part. -/
def nx (a : List Int) (m k : Nat) : Nat := (k + 1 + fi (rot a m k) (a.getD k 0)) % m
/-- How far a place lies behind the one behind k. -/
def dst (m k p : Nat) : Nat := (p + m - k - 1) % m
theorem dst_at (m k d : Nat) (hk : k < m) (hd : d < m) : dst m k ((k + 1 + d) % m) = d := by
  unfold dst
  by_cases h : k + 1 + d < m
  · rw [Nat.mod_eq_of_lt h, show k + 1 + d + m - k - 1 = d + m by omega, Nat.add_mod_right, Nat.mod_eq_of_lt hd]
  · have e : (k + 1 + d) % m = k + 1 + d - m := by rw [Nat.mod_eq_sub_mod (by omega), Nat.mod_eq_of_lt (by omega)]
    rw [e, show k + 1 + d - m + m - k - 1 = d by omega, Nat.mod_eq_of_lt hd]
theorem nx_at (a : List Int) (m k d : Nat) (hd : d < m) (he : a.getD ((k + 1 + d) % m) 0 = a.getD k 0) (h : ∀ j, j < d → (rot a m k).getD j 0 ≠ a.getD k 0) : nx a m k = (k + 1 + d) % m := by
  unfold nx
  rw [fi_eq (rot a m k) (a.getD k 0) d (by rw [rot_len]; exact hd) (by rw [rot_get _ _ _ _ hd]; exact he) h]
theorem nx_more (a : List Int) (m k d : Nat) (hk : k < m) (hd : d < m) (hn : a.getD ((k + 1 + d) % m) 0 ≠ a.getD k 0) (h : ∀ j, j < d → (rot a m k).getD j 0 ≠ a.getD k 0) : d + 1 < m ∧ ∀ j, j < d + 1 → (rot a m k).getD j 0 ≠ a.getD k 0 := by
  refine ⟨?_, fun j hj => ?_⟩
  · refine Decidable.byContradiction fun hc => ?_
    have e : k + 1 + d = k + m := by omega
    rw [e, Nat.add_mod_right, Nat.mod_eq_of_lt hk] at hn
    exact hn rfl
  · by_cases e : j = d
    · subst e; rw [rot_get _ _ _ _ hd]; exact hn
    · exact h j (by omega)
theorem nx_lt (a : List Int) (m k : Nat) (hm : 0 < m) : nx a m k < m := Nat.mod_lt _ hm
theorem tm_next (p m : Nat) : ((p : Int) + 1).tmod (m : Int) = ((p + 1) % m : Nat) := by
  rw [show (p : Int) + 1 = ((p + 1 : Nat) : Int) by omega]; rfl
set_option maxRecDepth 100000 in
set_option maxHeartbeats 4000000 in
theorem nextI_any (ga gp P m k : Nat) (a : List Int) (w : World) (hl : a.length = m) (h8 : m ≤ 8) (hk : k < m) (hlt : ga < w.heap.size) (hR : Rdf (Value.int .u8) w ga 0 a) :
    Calls Try.prog 94 #[.agg (shc ga gp m P), .int .i64 k] w fun e w' => e = .returned (.int .i64 (nx a m k : Nat)) ∧ Below w.heap.size w w' := by
  have hL := Lib.hid hl
  have hB1 : Below w.heap.size w (w.alloc (.cells (shc ga gp m P) 87)) := (Below.refl _ _).alloc (Nat.le_refl _) _
  have HR := Lib.hid (fun w' (h : Below w.heap.size w w') => hR.below hlt h hlt)
  have HB := Lib.hid hB1
  have HO := Lib.hid (Own.new w (shc ga gp m P) 87)
  have hsh : (shc ga gp m P)[0]? = some (.slice (some ⟨ga, 0, none⟩) m m) := rfl
  have c0 := HO.out.cell 0
  rw [hsh] at c0
  have hnz : ¬ (m : Int) = 0 := by omega
  have ht := tm_next k m
  have hqm : (k + 1) % m < m := Nat.mod_lt _ (by omega)
  obtain ⟨q, hq⟩ : ∃ q, (k + 1) % m = q := ⟨_, rfl⟩
  rw [hq] at ht hqm
  have hq0 := Lib.hid (show q = (k + 1 + 0) % m from hq.symm)
  clear hl hlt hR hB1 hq
  go_enter Try.func94, Try.ntmps94
  go_wp2
  clear c0 ht
  go_loopw [6] (fun v wr => ∃ d p : Nat, d < m ∧ p < m ∧ v = .int .i64 p ∧ Hid (p = (k + 1 + d) % m) ∧ Hid (∀ j, j < d → (rot a m k).getD j 0 ≠ a.getD k 0) ∧ Own wr w.heap.size (shc ga gp m P) 87 ∧ Below w.heap.size w wr) (fun v _ => m - dst m k (intOf v).toNat)
  case atStart => exact ⟨0, q, by omega, hqm, rfl, hq0, Lib.hid (fun j h => absurd h (Nat.not_lt_zero _)), HO.out, HB.out⟩
  case round =>
    clear HO HB
    obtain ⟨d, p, hd, hp, rfl, hE, hH, hO, hB⟩ := hrel
    have HO := Lib.hid hO
    have HB := Lib.hid hB
    have hRr := Lib.hid (HR.out wr hB)
    have c0 := hO.cell 0
    rw [hsh] at c0
    have c1 := hRr.out k (by rw [hL.out]; exact hk)
    have c2 := hRr.out p (by rw [hL.out]; exact hp)
    rw [Nat.zero_add] at c1 c2
    have i1 : (k : Int) < (m : Int) := by omega
    have i2 : (p : Int) < (m : Int) := by omega
    clear hO hB hRr
    by_cases he : a.getD p 0 = a.getD k 0
    · have hr := Lib.hid (nx_at a m k d hd (by rw [← hE.out]; exact he) hH.out)
      rw [← hE.out] at hr
      rw [he] at c2
      clear he hH
      generalize a.getD k 0 = x at *
      have hxx : (x != x) = false := by simp
      go_wp2
      go_quiet (fail)
      go_wp2
      go_ret
      exact ⟨by rw [hr.out]; rfl, Below.drewN HB.out _⟩
    · have hr := nx_more a m k d hk hd (by rw [← hE.out]; exact he) hH.out
      have hd2 := hr.1
      have HH := Lib.hid hr.2
      have hE2 := Lib.hid (show (p + 1) % m = (k + 1 + (d + 1)) % m by rw [hE.out, Nat.mod_add_mod]; rfl)
      have hms := Lib.hid (show m - dst m k ((p + 1) % m) < m - dst m k p by rw [hE2.out, hE.out, dst_at m k _ hk hd2, dst_at m k _ hk hd]; omega)
      have ht := tm_next p m
      have hqm : (p + 1) % m < m := Nat.mod_lt _ (by omega)
      obtain ⟨q, hq⟩ : ∃ q, (p + 1) % m = q := ⟨_, rfl⟩
      rw [hq] at ht hqm hE2 hms
      have hyx : (a.getD p 0 != a.getD k 0) = true := by simpa using he
      clear he hr hH hq hE
      have HH2 := Lib.hid HH
      clear HH
      generalize hxe : a.getD k 0 = x at c1 hyx
      generalize a.getD p 0 = y at *
      have HX := Lib.hid hxe
      clear hxe
      go_wp2
      go_quiet (fail)
      go_wp2
      go_roundw
      case rel => exact ⟨d + 1, q, hd2, hqm, rfl, hE2, (by have h := HH2.out; rw [HX.out] at h; exact h), HO.out.drewN _, Below.drewN HB.out _⟩
      case measure => have := hms.out; simp [intOf] <;> omega
end Go.Proofs.Ytblbnlpbefmieaa
