/- Draws of numbers for fusion. (Written by gensrw.py.) -/
import Derived.Test.YtmcffhafonemeaaSrf
import Derived.Test.YtmcffhafonemeaaFus
import Derived.OwnWalk
namespace Go.Proofs.Ytmcffhafonemeaa
open Go.RowKit Go.Lib
set_option linter.unusedVariables false
set_option linter.unusedSimpArgs false
theorem results_tmp4 {fn : Func} {t u v x : Tmp} (h : fn.results = #[.tmp t, .tmp u, .tmp v, .tmp x]) (tmps : Array Value) (P : Program) (w : World) :
    (results fn tmps).run P w = .ok (.tuple #[tmps.getD t undef, tmps.getD u undef, tmps.getD v undef, tmps.getD x undef]) w := by
  simp [results, h]
theorem results_tmp5 {fn : Func} {t u v x y : Tmp} (h : fn.results = #[.tmp t, .tmp u, .tmp v, .tmp x, .tmp y]) (tmps : Array Value) (P : Program) (w : World) :
    (results fn tmps).run P w = .ok (.tuple #[tmps.getD t undef, tmps.getD u undef, tmps.getD v undef, tmps.getD x undef, tmps.getD y undef]) w := by
  simp [results, h]
def okM (p c : Int) : Prop := 1 ≤ p ∧ p ≤ 101 ∧ -1 ≤ c ∧ c ≤ 101
set_option maxRecDepth 100000 in
set_option maxHeartbeats 4000000 in
theorem dfz_any (pc : Option Addr) (n cp : Nat) (hn : n ≤ 4096) (w : World) (hR : RdB w pc n) :
    Calls Try.prog 13 #[.slice pc n cp] w fun e w' => (∃ p c : Int, e = .returned (.tuple #[.int .i64 p, .int .i64 c]) ∧ okM p c) ∧ Below w.heap.size w w' := by
  have hf := Lib.hid (from_any pc n cp hn w hR)
  have hdr := Lib.hid (fun g w1 hb1 hS1 => draw_any w pc n cp hR hn g w1 hb1 hS1)
  have hlb := Lib.hid (fun g p c hp w1 hb1 hS1 => label_any w pc n cp hR hn g p c hp w1 hb1 hS1)
  clear hR hn
  go_enter Try.func13, Try.ntmps13
  go_wp2_with (first
    | (go_at_call 25; ((with_reducible refine (hdr.out _ _ hb1 hS1).mono ?_); rintro e w2 ⟨⟨p, c, rfl, hm⟩, hS2, hb2⟩; have hm' := Lib.hid hm; clear hm))
    | (go_at_call 24; ((with_reducible refine hf.out.mono ?_); rintro e w1 ⟨⟨g, rfl, hS1⟩, hb1⟩)))
  all_goals (go_ret2; exact ⟨⟨_, _, rfl, hm'.out⟩, hb2⟩)
set_option maxRecDepth 100000 in
set_option maxHeartbeats 4000000 in
theorem dfus_any (pc : Option Addr) (n cp : Nat) (hn : n ≤ 4096) (w : World) (hR : RdB w pc n) :
    Calls Try.prog 9 #[.slice pc n cp] w fun e w' => (∃ p c a b : Int, e = .returned (.tuple #[.int .i64 p, .int .i64 c, .int .i64 a, .int .i64 b]) ∧ okM p c) ∧ Below w.heap.size w w' := by
  have hf := Lib.hid (from_any pc n cp hn w hR)
  have hdr := Lib.hid (fun g w1 hb1 hS1 => draw_any w pc n cp hR hn g w1 hb1 hS1)
  have hlb := Lib.hid (fun g p c hp w1 hb1 hS1 => label_any w pc n cp hR hn g p c hp w1 hb1 hS1)
  clear hR hn
  go_enter Try.func9, Try.ntmps9
  go_wp2_with (first
    | (go_at_call 26; ((with_reducible refine (hlb.out _ _ _ hm'.out _ hb3 hS3).mono ?_); rintro e w4 ⟨⟨b, rfl, hb⟩, hS4, hb4⟩; clear hb))
    | (go_at_call 26; ((with_reducible refine (hlb.out _ _ _ hm'.out _ hb2 hS2).mono ?_); rintro e w3 ⟨⟨a, rfl, ha⟩, hS3, hb3⟩; clear ha))
    | (go_at_call 25; ((with_reducible refine (hdr.out _ _ hb1 hS1).mono ?_); rintro e w2 ⟨⟨p, c, rfl, hm⟩, hS2, hb2⟩; have hm' := Lib.hid hm; clear hm))
    | (go_at_call 24; ((with_reducible refine hf.out.mono ?_); rintro e w1 ⟨⟨g, rfl, hS1⟩, hb1⟩)))
  all_goals ((try simp only [Exit.inBlock, Exit.then]); refine bodyPost_ret (results_tmp4 rfl _ _ _) rfl ?_; exact ⟨⟨_, _, _, _, rfl, hm'.out⟩, hb4⟩)
set_option maxRecDepth 100000 in
set_option maxHeartbeats 4000000 in
theorem dadm_any (pc : Option Addr) (n cp : Nat) (hn : n ≤ 4096) (w : World) (hR : RdB w pc n) :
    Calls Try.prog 22 #[.slice pc n cp] w fun e w' => (∃ p c a b d : Int, e = .returned (.tuple #[.int .i64 p, .int .i64 c, .int .i64 a, .int .i64 b, .int .i64 d]) ∧ okM p c) ∧ Below w.heap.size w w' := by
  have hf := Lib.hid (from_any pc n cp hn w hR)
  have hdr := Lib.hid (fun g w1 hb1 hS1 => draw_any w pc n cp hR hn g w1 hb1 hS1)
  have hlb := Lib.hid (fun g p c hp w1 hb1 hS1 => label_any w pc n cp hR hn g p c hp w1 hb1 hS1)
  clear hR hn
  go_enter Try.func22, Try.ntmps22
  go_wp2_with (first
    | (go_at_call 26; ((with_reducible refine (hlb.out _ _ _ hm'.out _ hb4 hS4).mono ?_); rintro e w5 ⟨⟨d, rfl, hd⟩, hS5, hb5⟩; clear hd))
    | (go_at_call 26; ((with_reducible refine (hlb.out _ _ _ hm'.out _ hb3 hS3).mono ?_); rintro e w4 ⟨⟨b, rfl, hb⟩, hS4, hb4⟩; clear hb))
    | (go_at_call 26; ((with_reducible refine (hlb.out _ _ _ hm'.out _ hb2 hS2).mono ?_); rintro e w3 ⟨⟨a, rfl, ha⟩, hS3, hb3⟩; clear ha))
    | (go_at_call 25; ((with_reducible refine (hdr.out _ _ hb1 hS1).mono ?_); rintro e w2 ⟨⟨p, c, rfl, hm⟩, hS2, hb2⟩; have hm' := Lib.hid hm; clear hm))
    | (go_at_call 24; ((with_reducible refine hf.out.mono ?_); rintro e w1 ⟨⟨g, rfl, hS1⟩, hb1⟩)))
  all_goals ((try simp only [Exit.inBlock, Exit.then]); refine bodyPost_ret (results_tmp5 rfl _ _ _) rfl ?_; exact ⟨⟨_, _, _, _, _, rfl, hm'.out⟩, hb5⟩)
set_option maxRecDepth 100000 in
set_option maxHeartbeats 4000000 in
theorem dche_any (pc : Option Addr) (n cp : Nat) (hn : n ≤ 4096) (w : World) (hR : RdB w pc n) :
    Calls Try.prog 17 #[.slice pc n cp] w fun e w' => (∃ p c k : Int, e = .returned (.tuple #[.int .i64 p, .int .i64 c, .int .i64 k]) ∧ okM p c) ∧ Below w.heap.size w w' := by
  have hf := Lib.hid (from_any pc n cp hn w hR)
  have hdr := Lib.hid (fun g w1 hb1 hS1 => draw_any w pc n cp hR hn g w1 hb1 hS1)
  have hlb := Lib.hid (fun g p c hp w1 hb1 hS1 => label_any w pc n cp hR hn g p c hp w1 hb1 hS1)
  have hnx := Lib.hid (fun g (m : Int) (w1 : World) (hb1 : Below w.heap.size w w1) (hS1 : Src w.heap.size w1 g pc n cp) => next_drw w pc n cp hR hn g m w1 hb1 hS1)
  have hnr := Lib.hid (fun g (m : Int) hm (w1 : World) (hb1 : Below w.heap.size w w1) (hS1 : Src w.heap.size w1 g pc n cp) => near_any w pc n cp hR hn g m hm w1 hb1 hS1)
  have hpk := Lib.hid (fun (x y : Int) g => show ∀ w1 : World, Below w.heap.size w w1 → Src w.heap.size w1 g pc n cp → Calls Try.prog 40 #[.pointer (some ⟨g, 0, none⟩), .slice (some ⟨w1.heap.size, 0, none⟩) 2 2] (w1.alloc (.cells #[.int .i64 x, .int .i64 y] 2)) (Drw w g pc n cp (fun v => v ∈ ([x, y] : List Int))) from fun w1 hb1 hS1 => pick_drw w pc n cp hR hn g w1.heap.size 2 [x, y] (by simp) (by simp) (w1.alloc (.cells #[.int .i64 x, .int .i64 y] 2)) (hb1.alloc hb1.size _) (hS1.alloc _) (Own.new _ _ _) (by have := hS1.lt; omega))
  clear hR hn
  go_enter Try.func17, Try.ntmps17
  go_wp2_with (first
    | (go_at_call 40; ((with_reducible refine (hpk.out x y _ _ hb4 hS4).mono ?_); rintro e w5 ⟨⟨k, rfl, hk⟩, hS5, hb5⟩; clear hk))
    | (go_at_call 41; ((with_reducible refine (hnr.out _ _ (by omega) _ hb3 hS3).mono ?_); rintro e w4 ⟨⟨y, rfl, hy⟩, hS4, hb4⟩; clear hy))
    | (go_at_call 27; ((with_reducible refine (hnx.out _ _ _ hb2 hS2).mono ?_); rintro e w3 ⟨⟨x, rfl, hx⟩, hS3, hb3⟩; clear hx))
    | (go_at_call 25; ((with_reducible refine (hdr.out _ _ hb1 hS1).mono ?_); rintro e w2 ⟨⟨p, c, rfl, hm⟩, hS2, hb2⟩; have hm' := Lib.hid hm; clear hm))
    | (go_at_call 24; ((with_reducible refine hf.out.mono ?_); rintro e w1 ⟨⟨g, rfl, hS1⟩, hb1⟩)))
  all_goals (go_ret3; exact ⟨⟨_, _, _, rfl, hm'.out⟩, hb5⟩)
set_option maxRecDepth 100000 in
set_option maxHeartbeats 4000000 in
theorem dpth_any (pc : Option Addr) (n cp : Nat) (hn : n ≤ 4096) (w : World) (hR : RdB w pc n) :
    Calls Try.prog 19 #[.slice pc n cp] w fun e w' => (∃ z a b : Int, e = .returned (.tuple #[.int .i64 z, .int .i64 a, .int .i64 b])) ∧ Below w.heap.size w w' := by
  have hf := Lib.hid (from_any pc n cp hn w hR)
  have hdr := Lib.hid (fun g w1 hb1 hS1 => draw_any w pc n cp hR hn g w1 hb1 hS1)
  have hlb := Lib.hid (fun g p c hp w1 hb1 hS1 => label_any w pc n cp hR hn g p c hp w1 hb1 hS1)
  have hnx := Lib.hid (fun g (m : Int) (w1 : World) (hb1 : Below w.heap.size w w1) (hS1 : Src w.heap.size w1 g pc n cp) => next_drw w pc n cp hR hn g m w1 hb1 hS1)
  have hnr := Lib.hid (fun g (m : Int) hm (w1 : World) (hb1 : Below w.heap.size w w1) (hS1 : Src w.heap.size w1 g pc n cp) => near_any w pc n cp hR hn g m hm w1 hb1 hS1)
  have hpk := Lib.hid (fun g => show ∀ w1 : World, Below w.heap.size w w1 → Src w.heap.size w1 g pc n cp → Calls Try.prog 40 #[.pointer (some ⟨g, 0, none⟩), .slice (some ⟨w1.heap.size, 0, none⟩) 3 3] (w1.alloc (.cells #[.int .i64 3, .int .i64 6, .int .i64 99] 2)) (Drw w g pc n cp (fun v => v ∈ ([3, 6, 99] : List Int))) from fun w1 hb1 hS1 => pick_drw w pc n cp hR hn g w1.heap.size 3 [3, 6, 99] (by simp) (by simp) (w1.alloc (.cells #[.int .i64 3, .int .i64 6, .int .i64 99] 2)) (hb1.alloc hb1.size _) (hS1.alloc _) (Own.new _ _ _) (by have := hS1.lt; omega))
  have hqp := Lib.hid (fun (y : Int) (h : y ∈ ([3, 6, 99] : List Int)) => show -1 ≤ y ∧ y ≤ 1099511627776 from by
    simp only [List.mem_cons, List.not_mem_nil, or_false] at h; omega)
  clear hR hn
  go_enter Try.func19, Try.ntmps19
  go_wp2_with (first
    | (go_at_call 41; ((with_reducible refine (hnr.out _ _ (by omega) _ hb4 hS4).mono ?_); rintro e w5 ⟨⟨b, rfl, hb⟩, hS5, hb5⟩; clear hb))
    | (go_at_call 41; ((with_reducible refine (hnr.out _ _ (by omega) _ hb3 hS3).mono ?_); rintro e w4 ⟨⟨a, rfl, ha⟩, hS4, hb4⟩; clear ha))
    | (go_at_call 41; ((with_reducible refine (hnr.out _ _ hq _ hb2 hS2).mono ?_); rintro e w3 ⟨⟨z, rfl, hz⟩, hS3, hb3⟩; have wz : IntKind.i64.wrap (1 + z) = 1 + z := (IntWalk.i64_in _ (by omega)); have wy : IntKind.i64.wrap (1 + z - 1) = 1 + z - 1 := (IntWalk.i64_in _ (by omega))))
    | (go_at_call 40; ((with_reducible refine (hpk.out _ _ hb1 hS1).mono ?_); rintro e w2 ⟨⟨y, rfl, hy⟩, hS2, hb2⟩; have hq := hqp.out y hy; clear hy))
    | (go_at_call 24; ((with_reducible refine hf.out.mono ?_); rintro e w1 ⟨⟨g, rfl, hS1⟩, hb1⟩)))
  all_goals (go_ret3; exact ⟨⟨_, _, _, rfl⟩, hb5⟩)
end Go.Proofs.Ytmcffhafonemeaa
