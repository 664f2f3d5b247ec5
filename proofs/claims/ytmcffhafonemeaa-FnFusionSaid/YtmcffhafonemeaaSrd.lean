/- Draws of numbers: a source's calls. (Written by gensrd.py.) -/
import Derived.Test.YtmcffhafonemeaaSrc
import Derived.Test.YtmcffhafonemeaaCheS
namespace Go.Proofs.Ytmcffhafonemeaa
open Go.RowKit Go.Lib
set_option linter.unusedVariables false
set_option linter.unusedSimpArgs false
/-- A number was drawn. -/
def Drw (w0 : World) (g : Nat) (pc : Option Addr) (n cp : Nat) (P : Int → Prop) (e : Ending) (w' : World) : Prop := (∃ x, e = .returned (.int .i64 x) ∧ P x) ∧ Src w0.heap.size w' g pc n cp ∧ Below w0.heap.size w0 w'
theorem next_drw (w0 : World) (pc : Option Addr) (n cp : Nat) (hR : RdB w0 pc n) (hn : n ≤ 4096) (g : Nat) (m : Int) (w : World) (hb : Below w0.heap.size w0 w) (hS : Src w0.heap.size w g pc n cp) :
    Calls Try.prog 27 #[.pointer (some ⟨g, 0, none⟩), .int .i64 m] w (Drw w0 g pc n cp (fun x => 0 ≤ x ∧ (1 ≤ m → x < m) ∧ (m < 1 → x = 0))) :=
  (next_any w0 pc n cp hR hn g m w hb hS).mono fun e w' ⟨h1, h2, h3⟩ => ⟨h1, h2, hb.trans (h3.below' hS.lo)⟩
theorem pick_drw (w0 : World) (pc : Option Addr) (n cp : Nat) (hR : RdB w0 pc n) (hn : n ≤ 4096) (g : Nat) (gl c : Nat) (xs : List Int) (hx : 1 ≤ xs.length) (hx2 : xs.length ≤ 100) (w : World) (hb : Below w0.heap.size w0 w) (hS : Src w0.heap.size w g pc n cp) (hL : Own w gl (icells xs) 2) (hgl : gl ≠ g) :
    Calls Try.prog 40 #[.pointer (some ⟨g, 0, none⟩), .slice (some ⟨gl, 0, none⟩) xs.length c] w (Drw w0 g pc n cp (fun x => x ∈ xs)) :=
  (pick_any w0 pc n cp hR hn g gl c xs hx hx2 w hb hS hL hgl).mono fun e w' ⟨h1, h2, h3⟩ => ⟨h1, h2, hb.trans (h3.below' hS.lo)⟩
set_option maxRecDepth 100000 in
set_option maxHeartbeats 4000000 in
theorem near_any (w0 : World) (pc : Option Addr) (n cp : Nat) (hR : RdB w0 pc n) (hn : n ≤ 4096) (g : Nat) (most : Int) (hm : -1 ≤ most ∧ most ≤ 1099511627776) (w : World) (hb : Below w0.heap.size w0 w) (hS : Src w0.heap.size w g pc n cp) :
    Calls Try.prog 41 #[.pointer (some ⟨g, 0, none⟩), .int .i64 most] w (Drw w0 g pc n cp (fun x => -4611686018427387904 ≤ x ∧ x ≤ 1099511627777)) := by
  have hnx := Lib.hid (fun (m : Int) (w1 : World) (hb1 : Below w0.heap.size w0 w1) (hS1 : Src w0.heap.size w1 g pc n cp) => next_drw w0 pc n cp hR hn g m w1 hb1 hS1)
  have hb' := Lib.hid hb
  have hS' := Lib.hid hS
  have hpk : Hid (∀ w1 : World, Below w0.heap.size w0 w1 → Src w0.heap.size w1 g pc n cp → Calls Try.prog 40 #[.pointer (some ⟨g, 0, none⟩), .slice (some ⟨w1.heap.size, 0, none⟩) 4 4] (w1.alloc (.cells #[.int .i64 (-1), .int .i64 (most + 1), .int .i64 (1099511627776), .int .i64 (-4611686018427387904)] 2)) (Drw w0 g pc n cp (fun x => x ∈ ([-1, most + 1, 1099511627776, -4611686018427387904] : List Int)))) :=
    Lib.hid (fun w1 hb1 hS1 => pick_drw w0 pc n cp hR hn g w1.heap.size 4 [-1, most + 1, 1099511627776, -4611686018427387904] (by simp) (by simp) (w1.alloc (.cells #[.int .i64 (-1), .int .i64 (most + 1), .int .i64 (1099511627776), .int .i64 (-4611686018427387904)] 2)) (hb1.alloc hb1.size _) (hS1.alloc _) (Own.new _ _ _) (by have := hS1.lt; omega))
  have hqp := Lib.hid (fun (y : Int) (h : y ∈ ([-1, most + 1, 1099511627776, -4611686018427387904] : List Int)) => show -4611686018427387904 ≤ y ∧ y ≤ 1099511627777 from by
    simp only [List.mem_cons, List.not_mem_nil, or_false] at h; omega)
  have hqn := Lib.hid (fun (y : Int) (h : 0 ≤ y ∧ (1 ≤ most + 1 → y < most + 1) ∧ (most + 1 < 1 → y = 0)) => show -4611686018427387904 ≤ y ∧ y ≤ 1099511627777 from by omega)
  have wm : IntKind.i64.wrap (most + 1) = most + 1 := IntWalk.i64_in _ (by omega)
  have wm2 : wrap64 (most + 1) = most + 1 := IntWalk.wrap64_in _ (by omega)
  clear hR hn hb hS hm
  go_enter Try.func41, Try.ntmps41
  go_wp2_with (first
    | (go_at_call 27; ((with_reducible refine (hnx.out _ _ hb1 hS1).mono ?_); rintro e w2 ⟨⟨y, rfl, hy⟩, hS2, hb2⟩; have hq := hqn.out y hy; clear hy))
    | (go_at_call 40; ((with_reducible refine (hpk.out _ hb1 hS1).mono ?_); rintro e w2 ⟨⟨y, rfl, hy⟩, hS2, hb2⟩; have hq := hqp.out y hy; clear hy))
    | (go_at_call 27; ((with_reducible refine (hnx.out _ _ hb'.out hS'.out).mono ?_); rintro e w1 ⟨⟨x, rfl, hx⟩, hS1, hb1⟩)))
  all_goals (go_ret; exact ⟨⟨_, rfl, hq⟩, hS2, hb2⟩)
set_option maxRecDepth 100000 in
set_option maxHeartbeats 4000000 in
theorem prime_any (w0 : World) (pc : Option Addr) (n cp : Nat) (hR : RdB w0 pc n) (hn : n ≤ 4096) (g : Nat) (w : World) (hb : Below w0.heap.size w0 w) (hS : Src w0.heap.size w g pc n cp) :
    Calls Try.prog 44 #[.pointer (some ⟨g, 0, none⟩)] w (Drw w0 g pc n cp (fun x => 2 ≤ x ∧ x ≤ 97)) := by
  have hb' := Lib.hid hb
  have hS' := Lib.hid hS
  have hpk : Hid (∀ w1 : World, Below w0.heap.size w0 w1 → Src w0.heap.size w1 g pc n cp → Calls Try.prog 40 #[.pointer (some ⟨g, 0, none⟩), .slice (some ⟨w1.heap.size, 0, none⟩) 9 9] (w1.alloc (.cells #[.int .i64 (2), .int .i64 (3), .int .i64 (5), .int .i64 (5), .int .i64 (7), .int .i64 (7), .int .i64 (11), .int .i64 (13), .int .i64 (97)] 2)) (Drw w0 g pc n cp (fun x => x ∈ ([2, 3, 5, 5, 7, 7, 11, 13, 97] : List Int)))) :=
    Lib.hid (fun w1 hb1 hS1 => pick_drw w0 pc n cp hR hn g w1.heap.size 9 [2, 3, 5, 5, 7, 7, 11, 13, 97] (by simp) (by simp) (w1.alloc (.cells #[.int .i64 (2), .int .i64 (3), .int .i64 (5), .int .i64 (5), .int .i64 (7), .int .i64 (7), .int .i64 (11), .int .i64 (13), .int .i64 (97)] 2)) (hb1.alloc hb1.size _) (hS1.alloc _) (Own.new _ _ _) (by have := hS1.lt; omega))
  have hqp := Lib.hid (fun (y : Int) (h : y ∈ ([2, 3, 5, 5, 7, 7, 11, 13, 97] : List Int)) => show 2 ≤ y ∧ y ≤ 97 from by
    simp only [List.mem_cons, List.not_mem_nil, or_false] at h; omega)
  clear hR hn hb hS
  go_enter Try.func44, Try.ntmps44
  go_wp2_with (first
    | (go_at_call 40; ((with_reducible refine (hpk.out _ hb'.out hS'.out).mono ?_); rintro e w2 ⟨⟨y, rfl, hy⟩, hS2, hb2⟩; have hq := hqp.out y hy; clear hy)))
  go_ret
  exact ⟨⟨_, rfl, hq⟩, hS2, hb2⟩
/-- A prime and a loop value were drawn, or something near them. -/
def Drw2 (w0 : World) (g : Nat) (pc : Option Addr) (n cp : Nat) (e : Ending) (w' : World) : Prop := (∃ p c, e = .returned (.tuple #[.int .i64 p, .int .i64 c]) ∧ (1 ≤ p ∧ p ≤ 101 ∧ -1 ≤ c ∧ c ≤ 101)) ∧ Src w0.heap.size w' g pc n cp ∧ Below w0.heap.size w0 w'
set_option maxRecDepth 100000 in
set_option maxHeartbeats 4000000 in
theorem draw_any (w0 : World) (pc : Option Addr) (n cp : Nat) (hR : RdB w0 pc n) (hn : n ≤ 4096) (g : Nat) (w : World) (hb : Below w0.heap.size w0 w) (hS : Src w0.heap.size w g pc n cp) :
    Calls Try.prog 25 #[.pointer (some ⟨g, 0, none⟩)] w (Drw2 w0 g pc n cp) := by
  have hnx := Lib.hid (fun (m : Int) (w1 : World) (hb1 : Below w0.heap.size w0 w1) (hS1 : Src w0.heap.size w1 g pc n cp) => next_drw w0 pc n cp hR hn g m w1 hb1 hS1)
  have hb' := Lib.hid hb
  have hS' := Lib.hid hS
  have hpr := Lib.hid (prime_any w0 pc n cp hR hn g w hb hS)
  have hpa : Hid (∀ w1 : World, Below w0.heap.size w0 w1 → Src w0.heap.size w1 g pc n cp → Calls Try.prog 40 #[.pointer (some ⟨g, 0, none⟩), .slice (some ⟨w1.heap.size, 0, none⟩) 3 3] (w1.alloc (.cells #[.int .i64 (1), .int .i64 (4), .int .i64 (101)] 2)) (Drw w0 g pc n cp (fun x => x ∈ ([1, 4, 101] : List Int)))) :=
    Lib.hid (fun w1 hb1 hS1 => pick_drw w0 pc n cp hR hn g w1.heap.size 3 [1, 4, 101] (by simp) (by simp) (w1.alloc (.cells #[.int .i64 (1), .int .i64 (4), .int .i64 (101)] 2)) (hb1.alloc hb1.size _) (hS1.alloc _) (Own.new _ _ _) (by have := hS1.lt; omega))
  have hpb := Lib.hid (fun p => show ∀ w1 : World, Below w0.heap.size w0 w1 → Src w0.heap.size w1 g pc n cp → Calls Try.prog 40 #[.pointer (some ⟨g, 0, none⟩), .slice (some ⟨w1.heap.size, 0, none⟩) 2 2] (w1.alloc (.cells #[.int .i64 (-1), .int .i64 p] 2)) (Drw w0 g pc n cp (fun x => x ∈ ([-1, p] : List Int))) from fun w1 hb1 hS1 => pick_drw w0 pc n cp hR hn g w1.heap.size 2 [-1, p] (by simp) (by simp) (w1.alloc (.cells #[.int .i64 (-1), .int .i64 p] 2)) (hb1.alloc hb1.size _) (hS1.alloc _) (Own.new _ _ _) (by have := hS1.lt; omega))
  have hq0 := Lib.hid (fun (p c : Int) (h : 2 ≤ p ∧ p ≤ 97) (k : 0 ≤ c ∧ (1 ≤ p → c < p) ∧ (p < 1 → c = 0)) => show 1 ≤ p ∧ p ≤ 101 ∧ -1 ≤ c ∧ c ≤ 101 from by omega)
  have hqa := Lib.hid (fun (p c y : Int) (h : 1 ≤ p ∧ p ≤ 101 ∧ -1 ≤ c ∧ c ≤ 101) (k : y ∈ ([1, 4, 101] : List Int)) => show 1 ≤ y ∧ y ≤ 101 ∧ -1 ≤ c ∧ c ≤ 101 from by
    simp only [List.mem_cons, List.not_mem_nil, or_false] at k; omega)
  have hqb := Lib.hid (fun (p c y : Int) (h : 1 ≤ p ∧ p ≤ 101 ∧ -1 ≤ c ∧ c ≤ 101) (k : y ∈ ([-1, p] : List Int)) => show 1 ≤ p ∧ p ≤ 101 ∧ -1 ≤ y ∧ y ≤ 101 from by
    simp only [List.mem_cons, List.not_mem_nil, or_false] at k; omega)
  clear hR hn hb hS
  go_enter Try.func25, Try.ntmps25
  go_wp2_with (first
    | (go_at_call 40; ((with_reducible refine (hpa.out _ hb3 hS3).mono ?_); rintro e w4 ⟨⟨y, rfl, hy⟩, hS4, hb4⟩; have hqq := Lib.hid (hqa.out p c y hq.out hy); clear hy))
    | (go_at_call 40; ((with_reducible refine ((hpb.out p) _ hb3 hS3).mono ?_); rintro e w4 ⟨⟨y, rfl, hy⟩, hS4, hb4⟩; have hqq := Lib.hid (hqb.out p c y hq.out hy); clear hy))
    | (go_at_call 27; ((with_reducible refine (hnx.out _ _ hb2 hS2).mono ?_); rintro e w3 ⟨⟨t, rfl, ht⟩, hS3, hb3⟩; clear ht))
    | (go_at_call 27; ((with_reducible refine (hnx.out _ _ hb1 hS1).mono ?_); rintro e w2 ⟨⟨c, rfl, hc⟩, hS2, hb2⟩; have hq := Lib.hid (hq0.out p c hp hc); clear hp hc))
    | (go_at_call 44; ((with_reducible refine hpr.out.mono ?_); rintro e w1 ⟨⟨p, rfl, hp⟩, hS1, hb1⟩)))
  all_goals (go_ret2; first | exact ⟨⟨_, _, rfl, hqq.out⟩, hS4, hb4⟩ | exact ⟨⟨_, _, rfl, hq.out⟩, hS3, hb3⟩)
set_option maxRecDepth 100000 in
set_option maxHeartbeats 4000000 in
theorem label_any (w0 : World) (pc : Option Addr) (n cp : Nat) (hR : RdB w0 pc n) (hn : n ≤ 4096) (g : Nat) (p c : Int) (hp : 1 ≤ p ∧ p ≤ 101 ∧ -1 ≤ c ∧ c ≤ 101) (w : World) (hb : Below w0.heap.size w0 w) (hS : Src w0.heap.size w g pc n cp) :
    Calls Try.prog 26 #[.pointer (some ⟨g, 0, none⟩), .int .i64 p, .int .i64 c] w (Drw w0 g pc n cp (fun x => -4611686018427387904 ≤ x ∧ x ≤ 1099511627777)) := by
  have hcd := Lib.hid (fun w => (codeS_any p c w ⟨by omega, by omega⟩).mono fun e w' h => (show e = .returned (.int .i64 (if modB p c then 0 else 2)) ∧ w' = w from ⟨h.1, h.2.symm⟩))
  cases h : modB p c with
  | false =>
    rw [h] at hcd
    simp only [Bool.false_eq_true, if_false] at hcd
    have hb' := Lib.hid hb
    have hS' := Lib.hid hS
    clear hR hn hb hS hp h
    go_enter Try.func26, Try.ntmps26
    go_wp2_with (first
      | (go_at_call 38; ((with_reducible refine (hcd.out _).mono ?_); rintro e wa ⟨rfl, hw⟩; subst hw)))
    go_ret
    exact ⟨⟨_, rfl, by omega, by omega⟩, hS'.out, hb'.out⟩
  | true =>
    rw [h] at hcd
    simp only [if_true] at hcd
    obtain ⟨hpr, hp1, hp2, c0, c1⟩ := modB_spec h
    obtain ⟨z0, z1, z97⟩ := has_zero p c hpr c0 c1
    have hz := Lib.hid (fun w => (zeroS_any p c w h).mono fun e w' h => (show e = .returned (.int .i64 (fz p c)) ∧ w' = w from ⟨h.1, h.2.symm⟩))
    obtain ⟨z, hzz⟩ : ∃ z, fz p c = z := ⟨_, rfl⟩
    rw [hzz] at hz z1 z97
    have hnr := Lib.hid (near_any w0 pc n cp hR hn g ((z : Int) - 1) ⟨by omega, by omega⟩ w hb hS)
    have wz : IntKind.i64.wrap ((z : Int) - 1) = (z : Int) - 1 := IntWalk.i64_in _ (by omega)
    have wz2 : wrap64 ((z : Int) - 1) = (z : Int) - 1 := IntWalk.wrap64_in _ (by omega)
    clear hR hn hb hS hp h hzz z0 hpr hp1 hp2 c0 c1
    go_enter Try.func26, Try.ntmps26
    go_wp2_with (first
      | (go_at_call 38; ((with_reducible refine (hcd.out _).mono ?_); rintro e wa ⟨rfl, hw⟩; subst hw))
      | (go_at_call 39; ((with_reducible refine (hz.out _).mono ?_); rintro e wa ⟨rfl, hw⟩; subst hw))
      | (go_at_call 41; ((with_reducible refine hnr.out.mono ?_); rintro e w2 ⟨⟨y, rfl, hy⟩, hS2, hb2⟩)))
    go_ret
    exact ⟨⟨_, rfl, hy⟩, hS2, hb2⟩
end Go.Proofs.Ytmcffhafonemeaa
