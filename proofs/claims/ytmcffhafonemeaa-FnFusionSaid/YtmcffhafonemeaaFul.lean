/- FnFusion: the law. (Written by genful.py.) -/
import Derived.Test.YtmcffhafonemeaaFuk
namespace Go.Proofs.Ytmcffhafonemeaa
open Go.RowKit Go.Lib
set_option linter.unusedVariables false
set_option linter.unusedSimpArgs false
set_option maxRecDepth 100000 in
set_option maxHeartbeats 64000000 in
theorem fusn_law (pc : Option Addr) (n cp : Nat) (W : World) (hm : n ≤ maxLen) (hR : RdB W pc n) :
    Calls Try.prog 3 #[.slice pc n cp] W fun e w' => e = .returned (.bool true) ∧ Below W.heap.size W w' := by
  by_cases hn : n ≤ 4096
  · have hbg := Lib.hid (fun w => big_ok pc n cp hn w)
    have hRx := Lib.hid (fun w' (hb : Below W.heap.size W w') => hR.below hb)
    have hd1 := Lib.hid (fun w hR => dthe_any pc n cp hn w hR)
    have hd2 := Lib.hid (fun w hR => dfus_any pc n cp hn w hR)
    have hd3 := Lib.hid (fun w hR => dfz_any pc n cp hn w hR)
    have hd4 := Lib.hid (fun w hR => dche_any pc n cp hn w hR)
    have hd5 := Lib.hid (fun w hR => dpth_any pc n cp hn w hR)
    have hd6 := Lib.hid (fun w hR => dadm_any pc n cp hn w hR)
    have hrr := Lib.hid (fun (p c : Int) (h : okM p c) => show -9223372036854775808 ≤ p ∧ p ≤ 9223372036854775807 from by unfold okM at h; omega)
    have hbb : Below W.heap.size W W := Below.refl _ _
    clear hR hn hm
    go_enter Try.func3, Try.ntmps3
    go_upto_region 4 with (first
      | (go_at_call 4; ((with_reducible refine (hbg.out _).mono ?_); rintro e wa ⟨rfl, hw⟩; have hw := hw.symm; subst hw))
      | (go_at_call 5; ((with_reducible refine (hd1.out _ (hRx.out _ hbb)).mono ?_); rintro e wn ⟨⟨p, c, a, b, d, rfl, hm⟩, hB⟩; replace hbb := hbb.trans (hB.mono hbb.size); clear hB)))
    obtain ⟨x, y, tS, tI, tY⟩ := the_sym p c a b d (hrr.out _ _ hm)
    replace tS := Lib.hid tS
    replace tI := Lib.hid tI
    clear hm
    by_cases hy : y = 0
    · subst hy
      obtain ⟨t1, t2, t3⟩ := tY rfl
      replace t1 := Lib.hid t1
      replace t2 := Lib.hid t2
      replace t3 := Lib.hid t3
      clear tY
      go_upto_region 14 with (first
        | (go_at_call 6; ((with_reducible refine (tI.out _).mono ?_); rintro e wn ⟨rfl, hB⟩; replace hbb := hbb.trans (hB.mono hbb.size); clear hB))
        | (go_at_call 7; ((with_reducible refine (tS.out _).mono ?_); rintro e wn ⟨rfl, hB⟩; replace hbb := hbb.trans (hB.mono hbb.size); clear hB))
        | (go_at_call 6; ((with_reducible refine (t1.out _).mono ?_); rintro e wn ⟨rfl, hB⟩; replace hbb := hbb.trans (hB.mono hbb.size); clear hB))
        | (go_at_call 6; ((with_reducible refine (t2.out _).mono ?_); rintro e wn ⟨rfl, hB⟩; replace hbb := hbb.trans (hB.mono hbb.size); clear hB))
        | (go_at_call 8; ((with_reducible refine (t3.out _).mono ?_); rintro e wn ⟨rfl, hB⟩; replace hbb := hbb.trans (hB.mono hbb.size); clear hB)))
      clear tI tS t1 t2 t3
      go_upto_region 15 with (first
        | (go_at_call 9; ((with_reducible refine (hd2.out _ (hRx.out _ hbb)).mono ?_); rintro e wn ⟨⟨p2, c2, a2, b2, rfl, hm⟩, hB⟩; replace hbb := hbb.trans (hB.mono hbb.size); clear hB)))
      obtain ⟨xs, kk, hlx, fS, fI, fB⟩ := fus_sym p2 c2 a2 b2 (hrr.out _ _ hm)
      replace fS := Lib.hid fS
      replace fI := Lib.hid fI
      replace fB := Lib.hid fB
      have hlk := Lib.hid (fun p q cap cap' w hR hQ => like_any p q cap cap' xs (by omega) w hR hQ)
      clear hm hlx
      go_upto_region 20 with (first
        | (go_at_call 12; ((with_reducible refine (hlk.out _ _ _ _ v4 r4 r2).mono ?_); rintro e v5 ⟨rfl, hB⟩; replace hbb := hbb.trans (hB.mono hbb.size); clear hB))
        | (go_at_call 12; ((with_reducible refine (hlk.out _ _ _ _ v3 r2 r3).mono ?_); rintro e v4 ⟨rfl, hB⟩; replace r2 := r2.below hB; replace r4 := r4.below hB; clear r3; replace hbb := hbb.trans (hB.mono hbb.size); clear hB))
        | (go_at_call 10; ((with_reducible refine (fB.out v2).mono ?_); rintro e v3 ⟨q4, qc4, rfl, hM, hB⟩; have r4 := hM.rd; replace r2 := r2.below hB; replace r3 := r3.below hB; clear hM; replace hbb := hbb.trans (hB.mono hbb.size); clear hB))
        | (go_at_call 11; ((with_reducible refine (fS.out v1).mono ?_); rintro e v2 ⟨q3, qc3, rfl, hM, hB⟩; have r3 := hM.rd; replace r2 := r2.below hB; clear hM; replace hbb := hbb.trans (hB.mono hbb.size); clear hB))
        | (go_at_call 10; ((with_reducible refine (fI.out _).mono ?_); rintro e v1 ⟨q2, qc2, rfl, hM, hB⟩; have r2 := hM.rd; clear hM; replace hbb := hbb.trans (hB.mono hbb.size); clear hB)))
      clear r2 r4 fS fI fB hlk
      go_upto_region 21 with (first
        | (go_at_call 13; ((with_reducible refine (hd3.out _ (hRx.out _ hbb)).mono ?_); rintro e wn ⟨⟨p3, c3, rfl, hm⟩, hB⟩; replace hbb := hbb.trans (hB.mono hbb.size); clear hB)))
      obtain ⟨z, zy, zS, zI, zZ⟩ := fz_zero p3 c3 (hrr.out _ _ hm)
      replace zS := Lib.hid zS
      replace zI := Lib.hid zI
      clear hm
      by_cases hz : zy = 0
      · subst hz
        obtain ⟨z1, z97, zC⟩ := zZ rfl
        replace zC := Lib.hid zC
        have z2 : z ≤ 1000 := by omega
        have z3 : ¬ z < 1 := by omega
        clear zZ
        go_upto_region 29 with (first
          | (go_at_call 14; ((with_reducible refine (zI.out _).mono ?_); rintro e wn ⟨rfl, hB⟩; replace hbb := hbb.trans (hB.mono hbb.size); clear hB))
          | (go_at_call 15; ((with_reducible refine (zS.out _).mono ?_); rintro e wn ⟨rfl, hB⟩; replace hbb := hbb.trans (hB.mono hbb.size); clear hB))
          | (go_at_call 16; ((with_reducible refine (zC.out _).mono ?_); rintro e wn ⟨rfl, hB⟩; replace hbb := hbb.trans (hB.mono hbb.size); clear hB)))
        clear zI zS zC z2 z3 z1 z97
        go_upto_region 30 with (first
          | (go_at_call 17; ((with_reducible refine (hd4.out _ (hRx.out _ hbb)).mono ?_); rintro e wn ⟨⟨p4, c4, k4, rfl, hm⟩, hB⟩; replace hbb := hbb.trans (hB.mono hbb.size); clear hB)))
        obtain ⟨ck, cy, cS, cI⟩ := cheb_both p4 c4 k4 (hrr.out _ _ hm)
        replace cS := Lib.hid cS
        replace cI := Lib.hid cI
        clear hm
        go_upto_region 33 with (first
          | (go_at_call 16; ((with_reducible refine (cI.out _).mono ?_); rintro e wn ⟨rfl, hB⟩; replace hbb := hbb.trans (hB.mono hbb.size); clear hB))
          | (go_at_call 18; ((with_reducible refine (cS.out _).mono ?_); rintro e wn ⟨rfl, hB⟩; replace hbb := hbb.trans (hB.mono hbb.size); clear hB))
          | (go_at_call 19; ((with_reducible refine (hd5.out _ (hRx.out _ hbb)).mono ?_); rintro e wn ⟨⟨z5, a5, b5, rfl⟩, hB⟩; replace hbb := hbb.trans (hB.mono hbb.size); clear hB)))
        clear cS cI
        obtain ⟨pk, py, pS, pI⟩ := paths_both z5 a5 b5
        replace pS := Lib.hid pS
        replace pI := Lib.hid pI
        go_upto_region 36 with (first
          | (go_at_call 20; ((with_reducible refine (pI.out _).mono ?_); rintro e wn ⟨rfl, hB⟩; replace hbb := hbb.trans (hB.mono hbb.size); clear hB))
          | (go_at_call 21; ((with_reducible refine (pS.out _).mono ?_); rintro e wn ⟨rfl, hB⟩; replace hbb := hbb.trans (hB.mono hbb.size); clear hB))
          | (go_at_call 22; ((with_reducible refine (hd6.out _ (hRx.out _ hbb)).mono ?_); rintro e wn ⟨⟨p6, c6, a6, b6, d6, rfl, hm⟩, hB⟩; replace hbb := hbb.trans (hB.mono hbb.size); clear hB)))
        clear pS pI
        obtain ⟨ik, iy, iS, iI⟩ := isad_both p6 c6 a6 b6 d6 (hrr.out _ _ hm)
        replace iS := Lib.hid iS
        replace iI := Lib.hid iI
        clear hm
        go_wp2_with (first
          | (go_at_call 8; ((with_reducible refine (iI.out _).mono ?_); rintro e wn ⟨rfl, hB⟩; replace hbb := hbb.trans (hB.mono hbb.size); clear hB))
          | (go_at_call 23; ((with_reducible refine (iS.out _).mono ?_); rintro e wn ⟨rfl, hB⟩; replace hbb := hbb.trans (hB.mono hbb.size); clear hB)))
        go_ret
        exact ⟨rfl, hbb⟩
      · have hz0 : (zy == 0) = false := by simp [hz]
        clear zZ
        go_upto_region 29 with (first
          | (go_at_call 14; ((with_reducible refine (zI.out _).mono ?_); rintro e wn ⟨rfl, hB⟩; replace hbb := hbb.trans (hB.mono hbb.size); clear hB))
          | (go_at_call 15; ((with_reducible refine (zS.out _).mono ?_); rintro e wn ⟨rfl, hB⟩; replace hbb := hbb.trans (hB.mono hbb.size); clear hB)))
        clear zI zS hz0
        go_upto_region 30 with (first
          | (go_at_call 17; ((with_reducible refine (hd4.out _ (hRx.out _ hbb)).mono ?_); rintro e wn ⟨⟨p4, c4, k4, rfl, hm⟩, hB⟩; replace hbb := hbb.trans (hB.mono hbb.size); clear hB)))
        obtain ⟨ck, cy, cS, cI⟩ := cheb_both p4 c4 k4 (hrr.out _ _ hm)
        replace cS := Lib.hid cS
        replace cI := Lib.hid cI
        clear hm
        go_upto_region 33 with (first
          | (go_at_call 16; ((with_reducible refine (cI.out _).mono ?_); rintro e wn ⟨rfl, hB⟩; replace hbb := hbb.trans (hB.mono hbb.size); clear hB))
          | (go_at_call 18; ((with_reducible refine (cS.out _).mono ?_); rintro e wn ⟨rfl, hB⟩; replace hbb := hbb.trans (hB.mono hbb.size); clear hB))
          | (go_at_call 19; ((with_reducible refine (hd5.out _ (hRx.out _ hbb)).mono ?_); rintro e wn ⟨⟨z5, a5, b5, rfl⟩, hB⟩; replace hbb := hbb.trans (hB.mono hbb.size); clear hB)))
        clear cS cI
        obtain ⟨pk, py, pS, pI⟩ := paths_both z5 a5 b5
        replace pS := Lib.hid pS
        replace pI := Lib.hid pI
        go_upto_region 36 with (first
          | (go_at_call 20; ((with_reducible refine (pI.out _).mono ?_); rintro e wn ⟨rfl, hB⟩; replace hbb := hbb.trans (hB.mono hbb.size); clear hB))
          | (go_at_call 21; ((with_reducible refine (pS.out _).mono ?_); rintro e wn ⟨rfl, hB⟩; replace hbb := hbb.trans (hB.mono hbb.size); clear hB))
          | (go_at_call 22; ((with_reducible refine (hd6.out _ (hRx.out _ hbb)).mono ?_); rintro e wn ⟨⟨p6, c6, a6, b6, d6, rfl, hm⟩, hB⟩; replace hbb := hbb.trans (hB.mono hbb.size); clear hB)))
        clear pS pI
        obtain ⟨ik, iy, iS, iI⟩ := isad_both p6 c6 a6 b6 d6 (hrr.out _ _ hm)
        replace iS := Lib.hid iS
        replace iI := Lib.hid iI
        clear hm
        go_wp2_with (first
          | (go_at_call 8; ((with_reducible refine (iI.out _).mono ?_); rintro e wn ⟨rfl, hB⟩; replace hbb := hbb.trans (hB.mono hbb.size); clear hB))
          | (go_at_call 23; ((with_reducible refine (iS.out _).mono ?_); rintro e wn ⟨rfl, hB⟩; replace hbb := hbb.trans (hB.mono hbb.size); clear hB)))
        go_ret
        exact ⟨rfl, hbb⟩
    · have hy0 : (y == 0) = false := by simp [hy]
      clear tY
      go_upto_region 14 with (first
        | (go_at_call 6; ((with_reducible refine (tI.out _).mono ?_); rintro e wn ⟨rfl, hB⟩; replace hbb := hbb.trans (hB.mono hbb.size); clear hB))
        | (go_at_call 7; ((with_reducible refine (tS.out _).mono ?_); rintro e wn ⟨rfl, hB⟩; replace hbb := hbb.trans (hB.mono hbb.size); clear hB)))
      clear tI tS hy0
      go_upto_region 15 with (first
        | (go_at_call 9; ((with_reducible refine (hd2.out _ (hRx.out _ hbb)).mono ?_); rintro e wn ⟨⟨p2, c2, a2, b2, rfl, hm⟩, hB⟩; replace hbb := hbb.trans (hB.mono hbb.size); clear hB)))
      obtain ⟨xs, kk, hlx, fS, fI, fB⟩ := fus_sym p2 c2 a2 b2 (hrr.out _ _ hm)
      replace fS := Lib.hid fS
      replace fI := Lib.hid fI
      replace fB := Lib.hid fB
      have hlk := Lib.hid (fun p q cap cap' w hR hQ => like_any p q cap cap' xs (by omega) w hR hQ)
      clear hm hlx
      go_upto_region 20 with (first
        | (go_at_call 12; ((with_reducible refine (hlk.out _ _ _ _ v4 r4 r2).mono ?_); rintro e v5 ⟨rfl, hB⟩; replace hbb := hbb.trans (hB.mono hbb.size); clear hB))
        | (go_at_call 12; ((with_reducible refine (hlk.out _ _ _ _ v3 r2 r3).mono ?_); rintro e v4 ⟨rfl, hB⟩; replace r2 := r2.below hB; replace r4 := r4.below hB; clear r3; replace hbb := hbb.trans (hB.mono hbb.size); clear hB))
        | (go_at_call 10; ((with_reducible refine (fB.out v2).mono ?_); rintro e v3 ⟨q4, qc4, rfl, hM, hB⟩; have r4 := hM.rd; replace r2 := r2.below hB; replace r3 := r3.below hB; clear hM; replace hbb := hbb.trans (hB.mono hbb.size); clear hB))
        | (go_at_call 11; ((with_reducible refine (fS.out v1).mono ?_); rintro e v2 ⟨q3, qc3, rfl, hM, hB⟩; have r3 := hM.rd; replace r2 := r2.below hB; clear hM; replace hbb := hbb.trans (hB.mono hbb.size); clear hB))
        | (go_at_call 10; ((with_reducible refine (fI.out _).mono ?_); rintro e v1 ⟨q2, qc2, rfl, hM, hB⟩; have r2 := hM.rd; clear hM; replace hbb := hbb.trans (hB.mono hbb.size); clear hB)))
      clear r2 r4 fS fI fB hlk
      go_upto_region 21 with (first
        | (go_at_call 13; ((with_reducible refine (hd3.out _ (hRx.out _ hbb)).mono ?_); rintro e wn ⟨⟨p3, c3, rfl, hm⟩, hB⟩; replace hbb := hbb.trans (hB.mono hbb.size); clear hB)))
      obtain ⟨z, zy, zS, zI, zZ⟩ := fz_zero p3 c3 (hrr.out _ _ hm)
      replace zS := Lib.hid zS
      replace zI := Lib.hid zI
      clear hm
      by_cases hz : zy = 0
      · subst hz
        obtain ⟨z1, z97, zC⟩ := zZ rfl
        replace zC := Lib.hid zC
        have z2 : z ≤ 1000 := by omega
        have z3 : ¬ z < 1 := by omega
        clear zZ
        go_upto_region 29 with (first
          | (go_at_call 14; ((with_reducible refine (zI.out _).mono ?_); rintro e wn ⟨rfl, hB⟩; replace hbb := hbb.trans (hB.mono hbb.size); clear hB))
          | (go_at_call 15; ((with_reducible refine (zS.out _).mono ?_); rintro e wn ⟨rfl, hB⟩; replace hbb := hbb.trans (hB.mono hbb.size); clear hB))
          | (go_at_call 16; ((with_reducible refine (zC.out _).mono ?_); rintro e wn ⟨rfl, hB⟩; replace hbb := hbb.trans (hB.mono hbb.size); clear hB)))
        clear zI zS zC z2 z3 z1 z97
        go_upto_region 30 with (first
          | (go_at_call 17; ((with_reducible refine (hd4.out _ (hRx.out _ hbb)).mono ?_); rintro e wn ⟨⟨p4, c4, k4, rfl, hm⟩, hB⟩; replace hbb := hbb.trans (hB.mono hbb.size); clear hB)))
        obtain ⟨ck, cy, cS, cI⟩ := cheb_both p4 c4 k4 (hrr.out _ _ hm)
        replace cS := Lib.hid cS
        replace cI := Lib.hid cI
        clear hm
        go_upto_region 33 with (first
          | (go_at_call 16; ((with_reducible refine (cI.out _).mono ?_); rintro e wn ⟨rfl, hB⟩; replace hbb := hbb.trans (hB.mono hbb.size); clear hB))
          | (go_at_call 18; ((with_reducible refine (cS.out _).mono ?_); rintro e wn ⟨rfl, hB⟩; replace hbb := hbb.trans (hB.mono hbb.size); clear hB))
          | (go_at_call 19; ((with_reducible refine (hd5.out _ (hRx.out _ hbb)).mono ?_); rintro e wn ⟨⟨z5, a5, b5, rfl⟩, hB⟩; replace hbb := hbb.trans (hB.mono hbb.size); clear hB)))
        clear cS cI
        obtain ⟨pk, py, pS, pI⟩ := paths_both z5 a5 b5
        replace pS := Lib.hid pS
        replace pI := Lib.hid pI
        go_upto_region 36 with (first
          | (go_at_call 20; ((with_reducible refine (pI.out _).mono ?_); rintro e wn ⟨rfl, hB⟩; replace hbb := hbb.trans (hB.mono hbb.size); clear hB))
          | (go_at_call 21; ((with_reducible refine (pS.out _).mono ?_); rintro e wn ⟨rfl, hB⟩; replace hbb := hbb.trans (hB.mono hbb.size); clear hB))
          | (go_at_call 22; ((with_reducible refine (hd6.out _ (hRx.out _ hbb)).mono ?_); rintro e wn ⟨⟨p6, c6, a6, b6, d6, rfl, hm⟩, hB⟩; replace hbb := hbb.trans (hB.mono hbb.size); clear hB)))
        clear pS pI
        obtain ⟨ik, iy, iS, iI⟩ := isad_both p6 c6 a6 b6 d6 (hrr.out _ _ hm)
        replace iS := Lib.hid iS
        replace iI := Lib.hid iI
        clear hm
        go_wp2_with (first
          | (go_at_call 8; ((with_reducible refine (iI.out _).mono ?_); rintro e wn ⟨rfl, hB⟩; replace hbb := hbb.trans (hB.mono hbb.size); clear hB))
          | (go_at_call 23; ((with_reducible refine (iS.out _).mono ?_); rintro e wn ⟨rfl, hB⟩; replace hbb := hbb.trans (hB.mono hbb.size); clear hB)))
        go_ret
        exact ⟨rfl, hbb⟩
      · have hz0 : (zy == 0) = false := by simp [hz]
        clear zZ
        go_upto_region 29 with (first
          | (go_at_call 14; ((with_reducible refine (zI.out _).mono ?_); rintro e wn ⟨rfl, hB⟩; replace hbb := hbb.trans (hB.mono hbb.size); clear hB))
          | (go_at_call 15; ((with_reducible refine (zS.out _).mono ?_); rintro e wn ⟨rfl, hB⟩; replace hbb := hbb.trans (hB.mono hbb.size); clear hB)))
        clear zI zS hz0
        go_upto_region 30 with (first
          | (go_at_call 17; ((with_reducible refine (hd4.out _ (hRx.out _ hbb)).mono ?_); rintro e wn ⟨⟨p4, c4, k4, rfl, hm⟩, hB⟩; replace hbb := hbb.trans (hB.mono hbb.size); clear hB)))
        obtain ⟨ck, cy, cS, cI⟩ := cheb_both p4 c4 k4 (hrr.out _ _ hm)
        replace cS := Lib.hid cS
        replace cI := Lib.hid cI
        clear hm
        go_upto_region 33 with (first
          | (go_at_call 16; ((with_reducible refine (cI.out _).mono ?_); rintro e wn ⟨rfl, hB⟩; replace hbb := hbb.trans (hB.mono hbb.size); clear hB))
          | (go_at_call 18; ((with_reducible refine (cS.out _).mono ?_); rintro e wn ⟨rfl, hB⟩; replace hbb := hbb.trans (hB.mono hbb.size); clear hB))
          | (go_at_call 19; ((with_reducible refine (hd5.out _ (hRx.out _ hbb)).mono ?_); rintro e wn ⟨⟨z5, a5, b5, rfl⟩, hB⟩; replace hbb := hbb.trans (hB.mono hbb.size); clear hB)))
        clear cS cI
        obtain ⟨pk, py, pS, pI⟩ := paths_both z5 a5 b5
        replace pS := Lib.hid pS
        replace pI := Lib.hid pI
        go_upto_region 36 with (first
          | (go_at_call 20; ((with_reducible refine (pI.out _).mono ?_); rintro e wn ⟨rfl, hB⟩; replace hbb := hbb.trans (hB.mono hbb.size); clear hB))
          | (go_at_call 21; ((with_reducible refine (pS.out _).mono ?_); rintro e wn ⟨rfl, hB⟩; replace hbb := hbb.trans (hB.mono hbb.size); clear hB))
          | (go_at_call 22; ((with_reducible refine (hd6.out _ (hRx.out _ hbb)).mono ?_); rintro e wn ⟨⟨p6, c6, a6, b6, d6, rfl, hm⟩, hB⟩; replace hbb := hbb.trans (hB.mono hbb.size); clear hB)))
        clear pS pI
        obtain ⟨ik, iy, iS, iI⟩ := isad_both p6 c6 a6 b6 d6 (hrr.out _ _ hm)
        replace iS := Lib.hid iS
        replace iI := Lib.hid iI
        clear hm
        go_wp2_with (first
          | (go_at_call 8; ((with_reducible refine (iI.out _).mono ?_); rintro e wn ⟨rfl, hB⟩; replace hbb := hbb.trans (hB.mono hbb.size); clear hB))
          | (go_at_call 23; ((with_reducible refine (iS.out _).mono ?_); rintro e wn ⟨rfl, hB⟩; replace hbb := hbb.trans (hB.mono hbb.size); clear hB)))
        go_ret
        exact ⟨rfl, hbb⟩
  · have hbg := Lib.hid (fun w => big_no pc n cp hn w)
    clear hR hn hm
    go_enter Try.func3, Try.ntmps3
    go_wp2_with (first
      | (go_at_call 4; ((with_reducible refine (hbg.out _).mono ?_); rintro e wa ⟨rfl, hw⟩; have hw := hw.symm; subst hw)))
    go_ret
    exact ⟨rfl, Below.refl _ _⟩
end Go.Proofs.Ytmcffhafonemeaa
