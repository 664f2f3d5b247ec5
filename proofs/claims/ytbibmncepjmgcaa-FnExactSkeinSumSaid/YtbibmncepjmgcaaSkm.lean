/- Skein sums: plain; the program's closure and its sum over three variants. -/
import Derived.Test.YtbibmncepjmgcaaJov
import Derived.Test.YtbibmncepjmgcaaCat
namespace Go.Proofs.Ytbibmncepjmgcaa
open Go.RowKit Go.Lib
set_option linter.unusedVariables false
set_option linter.unusedSimpArgs false
/-- A word with another number at k, and without the number at k. -/
def skw (xs : List Int) (k : Nat) (x : Int) : List Int := xs.take k ++ [x] ++ xs.drop (k + 1)
def sk0 (xs : List Int) (k : Nat) : List Int := xs.take k ++ xs.drop (k + 1)
theorem skw_ok {n : Int} {xs : List Int} (hxs : ∀ x ∈ xs, x ≠ 0 ∧ -n < x ∧ x < n) (k : Nat) (x : Int) (hx : x ≠ 0 ∧ -n < x ∧ x < n) : ∀ y ∈ skw xs k x, y ≠ 0 ∧ -n < y ∧ y < n := by
  intro y hy
  simp only [skw, List.mem_append, List.mem_singleton] at hy
  rcases hy with (h | rfl) | h
  · exact hxs y (List.mem_of_mem_take h)
  · exact hx
  · exact hxs y (List.mem_of_mem_drop h)
theorem sk0_ok {n : Int} {xs : List Int} (hxs : ∀ x ∈ xs, x ≠ 0 ∧ -n < x ∧ x < n) (k : Nat) : ∀ y ∈ sk0 xs k, y ≠ 0 ∧ -n < y ∧ y < n := by
  intro y hy
  simp only [sk0, List.mem_append] at hy
  rcases hy with h | h
  · exact hxs y (List.mem_of_mem_take h)
  · exact hxs y (List.mem_of_mem_drop h)
theorem skw_len {xs : List Int} {k : Nat} (h : k < xs.length) (x : Int) : (skw xs k x).length = xs.length := by simp [skw]; omega
theorem sk0_len {xs : List Int} {k : Nat} (h : k < xs.length) : (sk0 xs k).length = xs.length - 1 := by simp [sk0]; omega
/-- The skein sum. -/
def skV (p c n a b : Int) (xs : List Int) (k : Nat) : Int :=
  (pw p a 4 * jnV p c n a b (skw xs k (max (xs.getD k 0) (-(xs.getD k 0)))) - pw p b 4 * jnV p c n a b (skw xs k (-(max (xs.getD k 0) (-(xs.getD k 0))))) + (a * a - b * b) * jnV p c n a b (sk0 xs k)) % p
theorem jnV_rng {p c n a b : Int} (hp : 2 ≤ p) (xs : List Int) : 0 ≤ jnV p c n a b xs ∧ jnV p c n a b xs < p := ⟨Int.emod_nonneg _ (by omega), Int.emod_lt_of_pos _ (by omega)⟩
theorem skV_model (p A B D J1 J2 J3 : Int) : (J1 * A - J2 * B + J3 * (D % p)) % p = (A * J1 - B * J2 + D * J3) % p := by
  rw [Int.emod_def D p]
  have e : J1 * A - J2 * B + J3 * (D - p * (D / p)) = (A * J1 - B * J2 + D * J3) + p * (-(J3 * (D / p))) := by
    rw [Int.mul_sub, Int.mul_neg, Int.mul_comm J1 A, Int.mul_comm J2 B, Int.mul_comm J3 D, Int.mul_left_comm J3 p]; omega
  rw [e, Int.add_mul_emod_self_left]
set_option maxRecDepth 100000 in
set_option maxHeartbeats 4000000 in
theorem skc_any (a b p c n : Int) (hp : 2 ≤ p) (hp2 : p ≤ 97) (hc0 : 0 ≤ c) (hc1 : c < p) (h2 : 2 ≤ n) (h6 : n ≤ 6) (ha : 0 ≤ a ∧ a < p) (hb : 0 ≤ b ∧ b < p) (f : Int) (q0 : Option Addr) (cap : Nat) (xs : List Int) (hxl : xs.length ≤ 24) (hxs : ∀ x ∈ xs, x ≠ 0 ∧ -n < x ∧ x < n) (g12 : Nat) (w : World) (hR : Rd w q0 xs)
    (hO : Own w g12 #[.int .i64 a, .int .i64 b, .int .i64 p, .int .i64 c, .int .i64 n, .slice none 0 0] 71) :
    Calls Try.prog 62 #[.agg #[.int .i64 f, .slice q0 xs.length cap], .pointer (some ⟨g12, 0, none⟩)] w fun e w' => e = .returned (.tuple #[.int .i64 f, .int .i64 (jnV p c n a b xs)]) ∧ Below w.heap.size w w' := by
  have hjn := Lib.hid (fun w hR => jnI_any a b p c n hp hp2 hc0 hc1 h2 h6 ha hb q0 cap xs hxl hxs w hR)
  obtain ⟨V, hV⟩ : ∃ V, jnV p c n a b xs = V := ⟨_, rfl⟩
  rw [hV] at hjn ⊢
  have hRx := Lib.hid (fun w' (hb : Below w.heap.size w w') => hR.below hb)
  obtain ⟨m, hm⟩ : ∃ m, xs.length = m := ⟨_, rfl⟩
  rw [hm] at hjn ⊢
  have lO := hO.lt
  clear hm hV hR hxs hxl
  unfold skv at *
  go_enter Try.func62, Try.ntmps62
  go_upto_region 1 with fail
  have oV : Own (w.alloc (.cells #[.int .i64 f, .slice q0 m cap] 83)) w.heap.size #[.int .i64 f, .slice q0 m cap] 83 := Own.new _ _ _
  have oS := hO.alloc (.cells #[.int .i64 f, .slice q0 m cap] 83)
  have b1 : Below w.heap.size w (w.alloc (.cells #[.int .i64 f, .slice q0 m cap] 83)) := (Below.refl _ w).alloc (Nat.le_refl _) _
  generalize w.alloc (.cells #[.int .i64 f, .slice q0 m cap] 83) = w1 at *
  refine wp_region_st (fun x => Own x w.heap.size #[.int .i64 f, .slice q0 m cap] 83 ∧ Own x g12 #[.int .i64 a, .int .i64 b, .int .i64 p, .int .i64 c, .int .i64 n, .slice none 0 0] 71) [(true, 0), (true, 1), (true, 2), (true, 3), (true, 4), (false, 5)] 6 (by kernel_rfl) (by kernel_rfl) ⟨oV.drewN 1, oS.drewN 1⟩ ?_
  have oVd : Own { w1 with drawn := w1.drawn + 1 } w.heap.size #[.int .i64 f, .slice q0 m cap] 83 := oV
  have oSd : Own { w1 with drawn := w1.drawn + 1 } g12 #[.int .i64 a, .int .i64 b, .int .i64 p, .int .i64 c, .int .i64 n, .slice none 0 0] 71 := oS
  have bd : Below w.heap.size w { w1 with drawn := w1.drawn + 1 } := b1.drew
  clear oV oS b1
  generalize ({ w1 with drawn := w1.drawn + 1 } : World) = w3 at *
  simp only [List.map_cons, List.map_nil, opS'_mk, opN_zero, opN_succ, List.drop_succ_cons, List.drop_zero]
  iterate 2 (apply wpSt_read; · (intro wd hS K hK; have k0 : wd.cell? ⟨w.heap.size, 0, none⟩ = some (.int .i64 f) := hS.1.cell 0; clear hS; go_simp; exact hK))
  (apply wpSt_read; · (intro wd hS K hK; rw [if_pos (by rfl)]; refine still_load_row 71 (.tmp 1) rfl g12 rfl 71 #[.int .i64 a, .int .i64 b, .int .i64 p, .int .i64 c, .int .i64 n, .slice none 0 0] _ hS.2 Try.underlying71 rfl (by kernel_rfl) ?_; exact hK))
  iterate 2 (apply wpSt_read; · (intro wd hS K hK; have k0 : wd.cell? ⟨w.heap.size, 1, none⟩ = some (.slice q0 m cap) := hS.1.cell 1; clear hS; go_simp; exact hK))
  refine wpSt_keep (fun K hK => ?_)
  go_wp2_with (first
    | (go_at_call 53; ((with_reducible refine (hjn.out w3 (hRx.out _ bd)).mono ?_); rintro e w4 ⟨rfl, hB4⟩)))
  have oV4 := oVd.below hB4 oVd.lt
  have oS4 := oSd.below hB4 oSd.lt
  have b4 := bd.trans (hB4.mono bd.size)
  refine hK _ _ ⟨oV4, oS4⟩ rfl ?_
  clear hK K
  refine wpSt_nil ?_
  go_wp2
  go_ret2
  exact ⟨rfl, b4⟩
/-- The sum of the first k products. -/
def sov (fv jv : Nat → Int) : Nat → Int
  | 0 => 0
  | k + 1 => sov fv jv k + fv k * jv k
set_option maxRecDepth 100000 in
set_option maxHeartbeats 4000000 in
theorem sov_any (a b p c n : Int) (hp : 2 ≤ p) (hp2 : p ≤ 97) (hc0 : 0 ≤ c) (hc1 : c < p) (h2 : 2 ≤ n) (h6 : n ≤ 6) (ha : 0 ≤ a ∧ a < p) (hb : 0 ≤ b ∧ b < p) (fv : Nat → Int) (hf : ∀ k, -10000 ≤ fv k ∧ fv k ≤ 10000) (qv : Nat → Option Addr) (cv : Nat → Nat) (wv : Nat → List Int) (hxl : ∀ k, (wv k).length ≤ 24) (hxs : ∀ k, ∀ x ∈ wv k, x ≠ 0 ∧ -n < x ∧ x < n) (g12 g98 : Nat) (w : World) (hR : ∀ k, Rd w (qv k) (wv k))
    (hO : Own w g12 #[.int .i64 a, .int .i64 b, .int .i64 p, .int .i64 c, .int .i64 n, .slice none 0 0] 71) (cs : Array Value) (hV : Own w g98 cs 83) (hcs : ∀ k, k < 3 → ∀ j v, [.int .i64 (fv k), .slice (qv k) (wv k).length (cv k)][j]? = some v → cs[k * 2 + j]? = some v) :
    Calls Try.prog 61 #[.int .i64 p, .slice (some ⟨g98, 0, none⟩) 3 3, .func (.func 62) #[] #[.pointer (some ⟨g12, 0, none⟩)]] w fun e w' => e = .returned (.int .i64 (sov fv (fun k => jnV p c n a b (wv k)) 3 % p)) ∧ Below w.heap.size w w' := by
  have hcl := Lib.hid (fun k w hR hO => skc_any a b p c n hp hp2 hc0 hc1 h2 h6 ha hb (fv k) (qv k) (cv k) (wv k) (hxl k) (hxs k) g12 w hR hO)
  have hRx := Lib.hid (fun k w' (hb : Below w.heap.size w w') => (hR k).below hb)
  have hcell := Lib.hid (fun k (hk : k < 3) w' (hb : Below w.heap.size w w') j v hv => show w'.cell? ((⟨g98, 0, none⟩ : Addr).add (k * 2) |>.add j) = some v from by
    rw [Addr.add_mid, Addr.add_mid, Nat.zero_add, (hV.below hb hV.lt).cell]
    exact hcs k hk j v hv)
  have hjr := Lib.hid (fun k => jnV_rng (c := c) (n := n) (a := a) (b := b) hp (wv k))
  have hff := Lib.hid hf
  obtain ⟨J, hJ⟩ : ∃ J : Nat → Int, (fun k => jnV p c n a b (wv k)) = J := ⟨_, rfl⟩
  have hJ' : ∀ k, jnV p c n a b (wv k) = J k := fun k => congrFun hJ k
  simp only [hJ'] at hcl hjr
  rw [hJ]
  have hst := Lib.hid (fun k => show sov fv J (k + 1) = sov fv J k + fv k * J k from rfl)
  have hrg := Lib.hid (show ∀ k : Nat, k ≤ 3 → -1000000 * (k : Int) ≤ sov fv J k ∧ sov fv J k ≤ 1000000 * (k : Int) from by
    intro k
    induction k with
    | zero => intro _; exact ⟨by simp [sov], by simp [sov]⟩
    | succ k ih =>
      intro hk
      have i := ih (by omega)
      have h1 := hff.out k
      have h2 := hjr.out k
      have m1 : fv k * J k ≤ 10000 * J k := Int.mul_le_mul_of_nonneg_right h1.2 h2.1
      have m2 : -10000 * J k ≤ fv k * J k := Int.mul_le_mul_of_nonneg_right h1.1 h2.1
      rw [sov]
      omega)
  have lO := hO.lt
  have hO' := Lib.hid hO
  obtain ⟨ad, had⟩ : ∃ ad : Addr, (⟨g98, 0, none⟩ : Addr) = ad := ⟨_, rfl⟩
  rw [had] at hcell ⊢
  clear hR hV hcs hJ hJ' hf hxl hxs hO had
  go_enter Try.func61, Try.ntmps61
  go_wp2
  go_loopw [7, 14] (fun v i wr => ∃ k : Nat, k ≤ 3 ∧ i = .int .i64 k ∧ v = .int .i64 (sov fv J k) ∧ Below w.heap.size w wr) (fun _ i _ => ((3 : Int) - intOf i).toNat)
  case atStart => exact ⟨0, by omega, rfl, rfl, Below.refl _ _⟩
  case round =>
    obtain ⟨k, hk, rfl, rfl, hB⟩ := hrel
    have hrk := hrg.out k hk
    by_cases hlt : k < 3
    · have hrk1 := hrg.out (k + 1) hlt
      have hst' := Lib.hid (hst.out k)
      rw [hst'.out] at hrk1
      have hc := Lib.hid (hcell.out k hlt wr hB)
      have hcl' := Lib.hid (hcl.out k)
      have hj := hjr.out k
      have hf := hff.out k
      have m1 : fv k * J k ≤ 10000 * J k := Int.mul_le_mul_of_nonneg_right hf.2 hj.1
      have m2 : -10000 * J k ≤ fv k * J k := Int.mul_le_mul_of_nonneg_right hf.1 hj.1
      obtain ⟨j, hjj⟩ : ∃ j, J k = j := ⟨_, rfl⟩
      obtain ⟨f, hfk⟩ : ∃ f, fv k = f := ⟨_, rfl⟩
      obtain ⟨q, hq⟩ : ∃ q, qv k = q := ⟨_, rfl⟩
      obtain ⟨cp, hcp⟩ : ∃ q, cv k = q := ⟨_, rfl⟩
      have hRk := Lib.hid (hRx.out k)
      obtain ⟨zs, hzs⟩ : ∃ q, wv k = q := ⟨_, rfl⟩
      rw [hq, hzs] at hRk
      rw [hfk, hq, hcp, hzs] at hc hcl'
      rw [hjj] at hcl'
      rw [hfk, hjj] at hst' hrk1 m1 m2
      rw [hjj] at hj
      rw [hfk] at hf
      obtain ⟨M, hM⟩ : ∃ M, f * j = M := ⟨_, rfl⟩
      rw [hM] at hst' hrk1 m1 m2
      have wM : IntKind.i64.wrap (f * j) = M := by rw [hM]; exact IntWalk.i64_in _ (by omega)
      obtain ⟨V, hVV⟩ : ∃ V, sov fv J k = V := ⟨_, rfl⟩
      rw [hVV] at hrk hrk1 hst' ⊢
      have wV : IntKind.i64.wrap (V + M) = V + M := IntWalk.i64_in _ (by omega)
      obtain ⟨lz, hlz⟩ : ∃ l, zs.length = l := ⟨_, rfl⟩
      rw [hlz] at hc hcl'
      have bz := hB.size
      have lI : (k : Int) < 3 := by omega
      clear hVV hM hjj hfk hq hcp hzs hlz m1 m2
      go_wp2_with (first
        | (refine wpList_load_at rfl 83 (.tmp 16) rfl (ad.add (k * 2)) (by first | rfl | simp) [.int .i64 f, .slice q lz cp] _ hc.out Try.underlying83 rfl (by kernel_rfl) ?_)
        | (refine wpList_store_own rfl 83 _ _ rfl _ _ rfl rfl 83 _ (Own.new wr _ _) (by kernel_rfl) rfl (by simp [Value.oneCell']) ?_; intro w2 hO2 hN2; have b2 := (hB.alloc bz _).trans (hN2.below.mono bz))
        | (refine wpList_load_row rfl 83 _ rfl _ rfl 83 _ (0, 0) _ hO2 Try.underlying83 rfl (by kernel_rfl) ?_)
        | (go_at_call 62; ((with_reducible refine (hcl'.out w2 (hRk.out _ b2) (hO'.out.below b2 lO)).mono ?_); rintro e w3 ⟨rfl, hB3⟩; have b3 := b2.trans (hB3.mono b2.size))))
      go_roundw
      case rel => exact ⟨k + 1, by omega, by go_num, by rw [hst'.out], b3⟩
      case measure => simp [intOf]; omega
    · obtain rfl : k = 3 := by omega
      have hre := Lib.hid (fun w1 => (remI_any p (sov fv J 3) w1 hp hp2 (by omega) (by omega)).mono fun e w' h => (show e = .returned (.int .i64 (sov fv J 3 % p)) ∧ w' = w1 from ⟨h.1, h.2.symm⟩))
      go_wp2_with (first
        | (go_at_call 89; ((with_reducible refine (hre.out _).mono ?_); rintro e w3 ⟨rfl, rfl⟩)))
      go_ret
      exact ⟨rfl, hB⟩
end Go.Proofs.Ytbibmncepjmgcaa
