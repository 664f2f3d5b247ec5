/- Parts as nodes that point to nodes: in memory, and the program's walks along them. -/
import Derived.Test.YtlgdeciikliihaaPom
import Derived.Deep.LoopGhost
import Derived.LaidEql
namespace Go.Proofs.Ytlgdeciikliihaa
open Go.RowKit
set_option linter.unusedVariables false
/-- Where a node lies: in the block a, or in the block b. -/
def nb (a b : Nat) (x : Int) : Nat := if x < 8 then a else b
def no (x : Int) : Nat := if x < 8 then x.toNat else x.toNat - 8
def pv (a b : Nat) (x : Int) : Value := if x < 0 then .pointer none else .pointer (some ⟨nb a b x, no x, none⟩)
theorem pv_none (a b : Nat) : pv a b (-1) = .pointer none := rfl
theorem pv_some (a b : Nat) (x : Int) (h : 0 ≤ x) : pv a b x = .pointer (some ⟨nb a b x, no x, none⟩) := by unfold pv; rw [if_neg (by omega)]
theorem nd_inj (a b : Nat) (hab : a ≠ b) (x y : Int) (hx : 0 ≤ x) (hx2 : x < 16) (hy : 0 ≤ y) (hy2 : y < 16) (h : (⟨nb a b x, no x, none⟩ : Addr) = ⟨nb a b y, no y, none⟩) : x = y := by
  injection h with h1 h2
  unfold nb at h1
  unfold no at h2
  split at h1 <;> split at h1 <;> simp_all <;> omega
def pcl (a b : Nat) (xs : List Int) : Array Value := (xs.map (pv a b)).toArray
theorem pcl_get (a b : Nat) (xs : List Int) (i : Nat) (h : i < xs.length) : (pcl a b xs)[i]? = some (pv a b (xs.getD i 0)) := by simp [pcl, h]
theorem pcl_set (a b : Nat) (xs : List Int) (i : Nat) (t : Int) : (pcl a b xs).setIfInBounds i (pv a b t) = pcl a b (xs.set i t) := by simp [pcl, List.map_set]
theorem pcl_size (a b : Nat) (xs : List Int) : (pcl a b xs).size = xs.length := by simp [pcl]
/-- Two blocks of eight nodes each. -/
structure Nod (a b : Nat) (nx : List Int) (w : World) : Prop where
  ne : a ≠ b
  len : nx.length = 16
  oa : Own w a (pcl a b (nx.take 8)) 90
  ob : Own w b (pcl a b (nx.drop 8)) 90
theorem Nod.cell {a b : Nat} {nx : List Int} {w : World} (h : Nod a b nx w) (x : Int) (hx : 0 ≤ x) (hx2 : x < 16) : w.cell? ⟨nb a b x, no x, none⟩ = some (pv a b (nx.getD x.toNat 0)) := by
  have hl := h.len
  unfold nb no
  by_cases e : x < 8
  · rw [if_pos e, if_pos e, h.oa.cell, pcl_get _ _ _ _ (by simp; omega), getD_take _ _ _ (by omega)]
  · rw [if_neg e, if_neg e, h.ob.cell, pcl_get _ _ _ _ (by simp; omega)]
    congr 2
    rw [List.getD_eq_getElem?_getD, List.getD_eq_getElem?_getD, List.getElem?_drop, show 8 + (x.toNat - 8) = x.toNat by omega]
theorem Nod.free {a b : Nat} {nx : List Int} {w : World} (h : Nod a b nx w) (x : Int) : w.frozen? ⟨nb a b x, no x, none⟩ = false := by
  unfold nb
  split
  · exact h.oa.free _
  · exact h.ob.free _
theorem Nod.below {a b B : Nat} {nx : List Int} {w w' : World} (h : Nod a b nx w) (hB : Below B w w') (ha : a < B) (hb : b < B) : Nod a b nx w' := ⟨h.ne, h.len, h.oa.below hB ha, h.ob.below hB hb⟩
theorem Nod.drewN {a b : Nat} {nx : List Int} {w : World} (h : Nod a b nx w) (n : Nat) : Nod a b nx (w.drewN n) := ⟨h.ne, h.len, h.oa.drewN n, h.ob.drewN n⟩
theorem Nod.set {a b : Nat} {nx : List Int} {w : World} (h : Nod a b nx w) (x t : Int) (hx : 0 ≤ x) (hx2 : x < 16) : Nod a b (nx.set x.toNat t) (w.setCell ⟨nb a b x, no x, none⟩ (pv a b t)) := by
  have hne := h.ne
  unfold nb no
  by_cases e : x < 8
  · rw [if_pos e, if_pos e]
    refine ⟨hne, by rw [List.length_set]; exact h.len, ?_, ?_⟩
    · have := h.oa.set x.toNat (pv a b t)
      rw [pcl_set, ← List.take_set] at this
      exact this
    · rw [List.drop_set, if_pos (by omega)]
      exact h.ob.other (by simpa using hne) _
  · rw [if_neg e, if_neg e]
    refine ⟨hne, by rw [List.length_set]; exact h.len, ?_, ?_⟩
    · rw [List.take_set, List.set_eq_of_length_le (by simp; omega)]
      exact h.oa.other (by simpa using fun e => hne e.symm) _
    · have := h.ob.set (x.toNat - 8) (pv a b t)
      rw [pcl_set] at this
      rw [List.drop_set, if_neg (by omega)]
      exact this
theorem Nod.ends {a b : Nat} {nx : List Int} {w : World} (h : Nod a b nx w) (x : Int) : ∃ cs, Own w (nb a b x) cs 90 := by
  unfold nb; split
  · exact ⟨_, h.oa⟩
  · exact ⟨_, h.ob⟩
theorem eqlP (d : Nat) {a b : Nat} {nx : List Int} {w : World} (h : Nod a b nx w) (x y : Int) (hx : 0 ≤ x) (hx2 : x < 16) (hy : 0 ≤ y) (hy2 : y < 16) : (Op.equalIn (d + 1) 87 (.pointer (some ⟨nb a b x, no x, none⟩)) (.pointer (some ⟨nb a b y, no y, none⟩))).run Try.prog w = .ok (decide (x = y)) w := by
  have hsz : (sizeOf 89).run Try.prog w = .ok 1 w := by kernel_rfl
  have hu : Try.prog.underlying 87 = some (.pointer 89) := by kernel_rfl
  have hs : (sameAddr ⟨nb a b x, no x, none⟩ ⟨nb a b y, no y, none⟩).run Try.prog w = .ok (decide (x = y)) w := by
    by_cases e : x = y
    · subst e; rw [run_sameAddr_same]; simp
    · obtain ⟨c1, h1⟩ := h.ends x
      obtain ⟨c2, h2⟩ := h.ends y
      rw [run_sameAddr_other w (fun q => e (nd_inj a b h.ne x y hx hx2 hy hy2 q)) h1 h2]
      simp [e]
  simp [Op.equalIn, run_underlying hu, hsz, hs]
theorem eqlPb {a b : Nat} {nx : List Int} {w : World} (h : Nod a b nx w) (x y : Int) (hx : 0 ≤ x) (hx2 : x < 16) (hy : 0 ≤ y) (hy2 : y < 16) : (binOp .eql 87 (.pointer (some ⟨nb a b x, no x, none⟩)) (.pointer (some ⟨nb a b y, no y, none⟩))).run Try.prog w = .ok (.bool (decide (x = y))) w := by
  simp only [binOp]
  simp [Op.equal, Op.maxDepth, eqlP 9999 h x y hx hx2 hy hy2]
theorem neqPb {a b : Nat} {nx : List Int} {w : World} (h : Nod a b nx w) (x y : Int) (hx : 0 ≤ x) (hx2 : x < 16) (hy : 0 ≤ y) (hy2 : y < 16) : (binOp .neq 87 (.pointer (some ⟨nb a b x, no x, none⟩)) (.pointer (some ⟨nb a b y, no y, none⟩))).run Try.prog w = .ok (.bool (!decide (x = y))) w := by
  simp only [binOp]
  simp [Op.equal, Op.maxDepth, eqlP 9999 h x y hx hx2 hy hy2]
set_option maxRecDepth 100000 in
set_option maxHeartbeats 1000000 in
theorem whole_any (a b : Nat) (nx : List Int) (k : Nat) (x r : Int) (hx : 0 ≤ x) (hx2 : x < 16) (hr : Root nx k x r) (w : World) (hN : Nod a b nx w) :
    Calls Try.prog 56 #[.pointer (some ⟨nb a b x, no x, none⟩)] w fun e w' => e = .returned (pv a b r) ∧ w = w' := by
  have hN' := Lib.hid hN
  have hr' := Lib.hid hr
  clear hN hr
  go_enter Try.func56, Try.ntmps56
  go_wp2
  go_loopg [0] k (fun f p wr => ∃ z : Int, 0 ≤ z ∧ z < 16 ∧ p = .pointer (some ⟨nb a b z, no z, none⟩) ∧ Hid (Root nx f z r) ∧ w = wr)
  case atStart => exact ⟨x, hx, hx2, rfl, hr', rfl⟩
  case round =>
    clear hr'
    obtain ⟨z, hz, hz2, rfl, hR, rfl⟩ := hrel
    have c1 := hN'.out.cell z hz hz2
    have hcase : (nx.getD z.toNat 0 = -1 ∧ r = z) ∨ ∃ f', gk = f' + 1 ∧ 0 ≤ nx.getD z.toNat 0 ∧ nx.getD z.toNat 0 < 16 ∧ Root nx f' (nx.getD z.toNat 0) r := by
      have := hR.out
      cases gk with
      | zero => exact .inl this
      | succ f' => rcases this with h | h
                   · exact .inl h
                   · exact .inr ⟨f', rfl, h⟩
    rcases hcase with ⟨h1, rfl⟩ | ⟨f', rfl, h1, h2, h3⟩
    · rw [h1, pv_none] at c1
      have hE := Lib.hid (pv_some a b r hz)
      clear hR h1
      generalize nb a b r = B at *
      generalize no r = O at *
      go_wp2
      go_ret
      exact ⟨by rw [hE.out]; rfl, rfl⟩
    · have h3' := Lib.hid h3
      rw [pv_some _ _ _ h1] at c1
      clear hR h3
      generalize nx.getD z.toNat 0 = y at *
      generalize nb a b z = B at *
      generalize no z = O at *
      go_wp2
      go_roundg f'
      case measure => omega
      case rel => exact ⟨y, h1, h2, rfl, h3', rfl⟩
set_option maxRecDepth 100000 in
set_option maxHeartbeats 1000000 in
theorem join_nodes (a b : Nat) (nx R : List Int) (j : Nat) (x y : Int) (hx : 0 ≤ x) (hx2 : x < 16) (hy : 0 ≤ y) (hy2 : y < 16) (hF : For nx R j) (w : World) (hN : Nod a b nx w) :
    Calls Try.prog 55 #[.pointer (some ⟨nb a b x, no x, none⟩), .pointer (some ⟨nb a b y, no y, none⟩)] w fun e w' => e = .returned (.tuple #[]) ∧ (∃ nx', For nx' (mrgR R x.toNat y.toNat) (j + 1) ∧ Nod a b nx' w') ∧ ∀ B, B ≤ a → B ≤ b → Below B w w' := by
  obtain ⟨rx1, rx2, rx3⟩ := hF.root x.toNat (by omega)
  obtain ⟨ry1, ry2, ry3⟩ := hF.root y.toNat (by omega)
  rw [show ((x.toNat : Nat) : Int) = x by omega] at rx3
  rw [show ((y.toNat : Nat) : Int) = y by omega] at ry3
  have hw1 := Lib.hid (fun w hN => whole_any a b nx j x _ hx hx2 rx3 w hN)
  have hw2 := Lib.hid (fun w hN => whole_any a b nx j y _ hy hy2 ry3 w hN)
  have hN' := Lib.hid hN
  have hq := neqPb hN _ _ rx1 rx2 ry1 ry2
  have hsame := Lib.hid (fun e => hF.same x.toNat y.toNat (by omega) (by omega) e)
  have hjoin := Lib.hid (fun e => hF.join x.toNat y.toNat (by omega) (by omega) e)
  have hset := Lib.hid (hN.set (R.getD x.toNat 0) (R.getD y.toNat 0) rx1 rx2)
  have hcell := hN.cell _ rx1 rx2
  have hfree := hN.free (R.getD x.toNat 0)
  have hnil := Lib.hid rx3.last
  rw [hnil.out, pv_none] at hcell
  have hoth : ∀ v, ∀ B, B ≤ a → B ≤ b → Below B w (w.setCell ⟨nb a b (R.getD x.toNat 0), no (R.getD x.toNat 0), none⟩ v) := fun v B ka kb => Below.setCell (Below.refl _ _) (by show B ≤ nb a b _; unfold nb; split <;> assumption) v
  have hoth' := Lib.hid hoth
  clear hoth hN rx3 ry3 hF
  generalize R.getD x.toNat 0 = rx at *
  generalize R.getD y.toNat 0 = ry at *
  rw [pv_some _ _ _ rx1] at hw1
  rw [pv_some _ _ _ ry1] at hw2 hset
  generalize nb a b x = Bx at *
  generalize no x = Ox at *
  generalize nb a b y = By at *
  generalize no y = Oy at *
  generalize nb a b rx = Cx at *
  generalize no rx = Px at *
  by_cases he : rx = ry
  · have hd : (!decide (rx = ry)) = false := by simp [he]
    rw [hd] at hq
    have hsm := Lib.hid (hsame.out he)
    clear hset hjoin hsame hd he
    go_enter Try.func55, Try.ntmps55
    go_wp2_with (first
      | (go_at_call 56; ((with_reducible refine (hw1.out w hN'.out).mono ?_); rintro e w1 ⟨rfl, rfl⟩))
      | (go_at_call 56; ((with_reducible refine (hw2.out w hN'.out).mono ?_); rintro e w2 ⟨rfl, rfl⟩)))
    go_end0
    exact ⟨rfl, ⟨nx, hsm.out, hN'.out⟩, fun B _ _ => Below.refl _ _⟩
  · have hd : (!decide (rx = ry)) = true := by simp [he]
    rw [hd] at hq
    have hjn := Lib.hid (hjoin.out he)
    clear hjoin hsame hd he hnil
    go_enter Try.func55, Try.ntmps55
    go_wp2_with (first
      | (go_at_call 56; ((with_reducible refine (hw1.out w hN'.out).mono ?_); rintro e w1 ⟨rfl, rfl⟩))
      | (go_at_call 56; ((with_reducible refine (hw2.out w hN'.out).mono ?_); rintro e w2 ⟨rfl, rfl⟩)))
    go_end0
    exact ⟨rfl, ⟨_, hjn.out, hset.out⟩, hoth'.out _⟩
end Go.Proofs.Ytlgdeciikliihaa
