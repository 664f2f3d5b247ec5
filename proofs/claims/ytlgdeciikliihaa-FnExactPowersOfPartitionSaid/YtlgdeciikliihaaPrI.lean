/- The contract of the program's product of two partitions. -/
import Derived.Test.YtlgdeciikliihaaPomP
import Derived.Test.YtlgdeciikliihaaPtN
import Derived.Test.YtlgdeciikliihaaPtx
import Derived.Maps.AppendAt
namespace Go.Proofs.Ytlgdeciikliihaa
open Go.RowKit
set_option linter.unusedVariables false
/-- A list of pointers that the call has made. -/
def RowP (a b : Nat) (w : World) (base : Nat) (v : Value) (xs : List Int) : Prop := w.ownsRow base 87 1 v xs.length (xs.map (pv a b))
theorem infoP : (Try.prog.info? 87).map (fun i => (i.zero, i.size, i.bytes)) = some (some (.pointer none), 1, 8) := by kernel_rfl
theorem pv_one (a b : Nat) (x : Int) : (pv a b x).oneCell' = true := by unfold pv; split <;> rfl
theorem RowP.parts {a b : Nat} {w : World} {base : Nat} {v : Value} {xs : List Int} (h : RowP a b w base v xs) (hx : xs ≠ []) : ∃ g cap, v = .slice (some ⟨g, 0, none⟩) xs.length cap ∧ base ≤ g ∧ g < w.heap.size ∧ Rdf (pv a b) w g 0 xs := by
  obtain ⟨_, ⟨_, h0⟩ | ⟨g, cap, cur, hv', hg, hh, hn, hcap, hsz, htake⟩⟩ := h
  · exact absurd (List.eq_nil_of_length_eq_zero h0) hx
  · refine ⟨g, cap, hv', hg, lt_of_block hh, fun j hj => ?_⟩
    have hO : Own w g cur 87 := hh
    rw [Nat.zero_add, hO.cell]
    have e : (cur.toList.take (xs.length * 1))[j]? = (xs.map (pv a b))[j]? := by rw [htake]
    rw [List.getElem?_take_of_lt (by omega)] at e
    simpa [hj] using e
theorem RowP.blk {a b : Nat} {w : World} {base : Nat} {v : Value} {xs : List Int} (h : RowP a b w base v xs) (k : Nat) (e : v.ownBlock = some k) : base ≤ k := by
  rcases h.2 with ⟨hv, _⟩ | ⟨g, cap, cur, hv, hb, _⟩
  · rw [hv] at e; cases e
  · rw [hv] at e; cases e; exact hb
theorem RowP.alloc {a b : Nat} {w : World} {base : Nat} {v : Value} {xs : List Int} (h : RowP a b w base v xs) (o : Obj) : RowP a b (w.alloc o) base v xs :=
  World.ownsRow.kept h (World.grownBy_alloc w o none) (by cases v.ownBlock <;> simp)
theorem RowP.start (a b : Nat) (w : World) (base n : Nat) (hb : base ≤ w.heap.size) (hn : w.heap.size = n) : RowP a b (w.alloc (.cells #[] 87)) base (.slice (some ⟨n, 0, none⟩) 0 0) [] := by
  subst hn
  exact ⟨by simp, .inr ⟨w.heap.size, 0, #[], rfl, hb, Own.new _ _ _, Nat.le_refl _, by unfold maxLen; omega, rfl, by simp⟩⟩
theorem wpList_append_rowP {ops : Array Oper} {rest : List Oper} {o : Oper} {ac : Act} {w : World} {Q : Exit → Act → World → Prop} (hgd : o.guard = none) (s x : Operand)
    (ho : o.op = .call { callee := .builtin .append, args := #[s, x], argTypes := #[92, 92] })
    (a b base : Nat) (v : Value) (xs ys : List Int) (hs : ac.eval s = v) (hi : RowP a b w base v xs) (ad : Addr) (c : Nat)
    (hx : ac.eval x = .slice (some ad) ys.length c) (hy : ∀ j, j < ys.length → w.cell? (ad.add j) = some (pv a b (ys.getD j 0))) (hl : xs.length + ys.length < 1000000) (hbase : base ≤ w.heap.size)
    (h : ∀ v' w', RowP a b w' base v' (xs ++ ys) → w.grownBy w' v.ownBlock → wpList Try.prog ops Q rest (ac.put o.dst v') w') : wpList Try.prog ops Q (o :: rest) ac w := by
  obtain ⟨i0, hi0, hz0, hz1, hz2⟩ := info_parts infoP
  refine wpList_append_own_at w hgd s x 92 ho base 87 i0 (.pointer none) 1 8 Try.underlying92 hi0 hz0 hz1 hz2 rfl (by decide) _ _ _ hs hi ad ys.length c (ys.map (pv a b)) hx (by simp) ?_ (by simp only [List.mem_map]; rintro u ⟨y, _, rfl⟩; exact pv_one a b y) (by unfold maxLen; omega) (by omega) hbase ?_
  · intro j u hj
    have hlt : j < ys.length := by have := (List.getElem?_eq_some_iff.1 hj).1; simpa using this
    rw [hy j hlt, ← hj]
    simp [hlt]
  · intro v' w' hown hgr hn hat
    rw [← List.length_append, ← List.map_append] at hown
    exact h v' w' hown hgr
theorem no_nilP (ad : Addr) (m c : Nat) : ∀ w : World, (binOp BinOp.eql 92 (.slice (some ad) m c) (.slice none 0 0)).run Try.prog w = .ok (.bool false) w := by
  intro w; kernel_rfl
theorem mkP0 : ∀ w : World, (Instr.buildSlice 92 0 #[]).run Try.prog w = .ok (.slice (some ⟨w.heap.size, 0, none⟩) 0 0) (w.alloc (.cells #[] 87)) := by
  intro w; kernel_rfl
set_option maxRecDepth 100000 in
set_option maxHeartbeats 1000000 in
theorem cloneP_any (a b g c : Nat) (xs : List Int) (hx : xs.length ≤ 900000) (w : World) (hg : g < w.heap.size) (hR : Rdf (pv a b) w g 0 xs) :
    Calls Try.prog 57 #[.slice (some ⟨g, 0, none⟩) xs.length c] w fun e w' => (∃ v, e = .returned v ∧ RowP a b w' w.heap.size v xs) ∧ Below w.heap.size w w' := by
  have hmk := mkP0
  have hR' := Lib.hid (fun o j (hj : j < xs.length) => show (w.alloc o).cell? ((⟨g, 0, none⟩ : Addr).add j) = some (pv a b (xs.getD j 0)) by
    rw [Addr.add_mid]; exact (hR.below hg ((Below.refl _ w).alloc (Nat.le_refl _) o) hg) j hj)
  obtain ⟨m, hm⟩ : ∃ m, xs.length = m := ⟨_, rfl⟩
  have hM := Lib.hid hm
  rw [hm] at hx ⊢
  have hnil := no_nilP ⟨g, 0, none⟩ m c
  clear hR hm
  go_enter Try.func57, Try.ntmps57
  go_wp2_with (first
    | (refine wpList_append_rowP rfl (.tmp 5) (.tmp 6) rfl a b w.heap.size _ [] xs rfl (RowP.start _ _ _ _ _ (Nat.le_refl _) rfl) ⟨g, 0, none⟩ c (by rw [hM.out]; rfl) (hR'.out _) (by rw [hM.out]; simp; omega) (by simp) ?_; rw [List.nil_append]; intro v w2 hI hG; have hB : Below w.heap.size w w2 := ((Below.refl _ w).alloc (Nat.le_refl _) _).grown hG (by simp) (RowP.start a b w w.heap.size w.heap.size (Nat.le_refl _) rfl).blk))
  go_ret
  exact ⟨⟨v, rfl, hI⟩, hB⟩
theorem makeP (a b N : Nat) (h1 : 1 ≤ N) (h4 : N ≤ 4) : ∀ w : World, (Instr.makeSlice 92 (.int .i64 (2 * (N : Int))) (.int .i64 (2 * (N : Int)))).run Try.prog w = .ok (.slice (some ⟨w.heap.size, 0, none⟩) (2 * N) (2 * N)) (w.alloc (.cells (pcl a b (List.replicate (2 * N) (-1))) 87)) := by
  have h : N = 1 ∨ N = 2 ∨ N = 3 ∨ N = 4 := by omega
  clear h1 h4
  rcases h with rfl | rfl | rfl | rfl <;> (intro w; kernel_rfl)
theorem nils_a (a b : Nat) : pcl a b (nils.take 8) = #[.pointer none, .pointer none, .pointer none, .pointer none, .pointer none, .pointer none, .pointer none, .pointer none] := rfl
theorem nils_b (a b : Nat) : pcl a b (nils.drop 8) = #[.pointer none, .pointer none, .pointer none, .pointer none, .pointer none, .pointer none, .pointer none, .pointer none] := rfl
theorem nd_a (a b : Nat) (x : Int) (h : x < 8) : (⟨nb a b x, no x, none⟩ : Addr) = ⟨a, x.toNat, none⟩ := by unfold nb no; rw [if_pos h, if_pos h]
theorem nd_b (a b : Nat) (x : Int) (h : 0 ≤ x) : (⟨nb a b (8 + x), no (8 + x), none⟩ : Addr) = ⟨b, x.toNat, none⟩ := by
  unfold nb no; rw [if_neg (by omega), if_neg (by omega), show (8 + x).toNat - 8 = x.toNat by omega]
/-- What stays through the product: the two factors, the result's cell, the nodes. -/
structure Prd (w0 : World) (N : Nat) (ms es nx : List Int) (w : World) : Prop where
  o : Own w w0.heap.size (dcells N ms) 31
  p : Own w (w0.heap.size + 1) (dcells N es) 31
  r : Own w (w0.heap.size + 1 + 1) zp 31
  n : Nod (w0.heap.size + 1 + 1 + 1) (w0.heap.size + 1 + 1 + 1 + 1) nx w
  b : Below w0.heap.size w0 w
theorem Prd.drewN {w0 : World} {N : Nat} {ms es nx : List Int} {w : World} (h : Prd w0 N ms es nx w) (k : Nat) : Prd w0 N ms es nx (w.drewN k) := ⟨h.o.drewN k, h.p.drewN k, h.r.drewN k, h.n.drewN k, Below.drewN h.b k⟩
theorem Prd.below {w0 : World} {N : Nat} {ms es nx : List Int} {w w' : World} (h : Prd w0 N ms es nx w) {B : Nat} (hB : Below B w w') (hs : w0.heap.size + 1 + 1 + 1 + 1 < B) : Prd w0 N ms es nx w' :=
  ⟨h.o.below hB (by omega), h.p.below hB (by omega), h.r.below hB (by omega), h.n.below hB (by omega) (by omega), h.b.trans (hB.mono (by omega))⟩
theorem Prd.join {w0 : World} {N : Nat} {ms es nx nx' : List Int} {w w' : World} (h : Prd w0 N ms es nx w) (hn : Nod (w0.heap.size + 1 + 1 + 1) (w0.heap.size + 1 + 1 + 1 + 1) nx' w') (hb : ∀ B, B ≤ w0.heap.size + 1 + 1 + 1 → B ≤ w0.heap.size + 1 + 1 + 1 + 1 → Below B w w') : Prd w0 N ms es nx' w' := by
  have hb := hb (w0.heap.size + 1 + 1 + 1) (Nat.le_refl _) (by omega)
  exact ⟨h.o.below hb (by omega), h.p.below hb (by omega), h.r.below hb (by omega), hn, h.b.trans (hb.mono (by omega))⟩
end Go.Proofs.Ytlgdeciikliihaa
