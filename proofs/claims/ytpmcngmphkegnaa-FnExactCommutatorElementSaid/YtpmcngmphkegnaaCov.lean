/- The law of CommutatorElement. (Written by gencov.py.) -/
import Derived.Test.YtpmcngmphkegnaaCow
import Derived.Test.YtpmcngmphkegnaaKoi
import Derived.Test.YtpmcngmphkegnaaKos
namespace Go.Proofs.Ytpmcngmphkegnaa
open Go.RowKit Go.Lib
set_option linter.unusedVariables false
set_option linter.unusedSimpArgs false
theorem com_law (p c n p2 c2 n2 : Int) (q1 q2 : Option Addr) (cap1 cap2 : Nat) (xs ys : List Tm) (hts : ∀ t ∈ xs, t.2.1.length = 16 ∧ Bytes t.2.1) (hts2 : ∀ t ∈ ys, t.2.1.length = 16 ∧ Bytes t.2.1) (hx : xs.length + ys.length ≤ 1048576) (hpw : -9223372036854775808 ≤ p ∧ p ≤ 9223372036854775807) (hpw2 : -9223372036854775808 ≤ p2 ∧ p2 ≤ 9223372036854775807) (w : World) (hR1 : RdT w q1 xs) (hR2 : RdT w q2 ys) :
    Calls Try.prog 8 #[.agg (ecl p c n (.slice q1 xs.length cap1)), .agg (ecl p2 c2 n2 (.slice q2 ys.length cap2))] w fun e w' => e = .returned (.bool true) ∧ Below w.heap.size w w' := by
  have h0 : L16 [] := fun t ht => by cases ht
  have hx1 : xs.length ≤ 1048576 := by omega
  have hy1 : ys.length ≤ 1048576 := by omega
  by_cases hk : prC p c n xs p2 c2 n2 ys = 0
  · obtain ⟨e1, e2, hp, hc, hn⟩ := prC_zero hk
    subst hp hc hn
    obtain ⟨_, _, _, hl, _, hsz, hp2, hp97, hto⟩ := elB_good e1 hts
    obtain ⟨_, _, _, hl2, _, hsz2, _, _, hto2⟩ := elB_good e2 hts2
    have hG : GoodT p (prN p c n xs ys) := prN_good (by omega) (fun t ht => ⟨hsz t ht, (hto t ht).1⟩) (fun t ht => ⟨hsz2 t ht, (hto2 t ht).1⟩)
    have hG' : GoodT p (prN p c n ys xs) := prN_good (by omega) (fun t ht => ⟨hsz2 t ht, (hto2 t ht).1⟩) (fun t ht => ⟨hsz t ht, (hto t ht).1⟩)
    by_cases hle : (prN p c n xs ys).length ≤ 140 ∧ (prN p c n ys xs).length ≤ 140
    · have hGR : GoodT p (smN p (-1) (prN p c n ys xs) (prN p c n xs ys)) := smN_good (by omega) _ _ hG'.val hG
      by_cases hR : (smN p (-1) (prN p c n ys xs) (prN p c n xs ys)).length ≤ 140
      · exact com_walk p c n p c n q1 q2 cap1 cap2 xs ys hts hts2 hx w hR1 hR2 p c n 0 _ (good16 hGR) (by omega) (fun a cap a2 cap2 w hA hB => comS_ok p c n a cap a2 cap2 xs ys hts hx1 hts2 hy1 hk e1 e2 hle.1 hle.2 p c n 0 _ (.inl ⟨hR, rfl, rfl, rfl, rfl, rfl⟩) w hA hB) (fun a cap a2 cap2 w hA hB => comI_ok p c n a cap a2 cap2 xs ys hts hx1 hts2 hy1 hk e1 e2 hle.1 hle.2 p c n 0 _ (.inl ⟨hR, rfl, rfl, rfl, rfl, rfl⟩) w hA hB)
      · exact com_walk p c n p c n q1 q2 cap1 cap2 xs ys hts hts2 hx w hR1 hR2 0 0 0 3 [] h0 (by simp) (fun a cap a2 cap2 w hA hB => comS_ok p c n a cap a2 cap2 xs ys hts hx1 hts2 hy1 hk e1 e2 hle.1 hle.2 0 0 0 3 [] (.inr ⟨by omega, rfl, rfl, rfl, rfl, rfl⟩) w hA hB) (fun a cap a2 cap2 w hA hB => comI_ok p c n a cap a2 cap2 xs ys hts hx1 hts2 hy1 hk e1 e2 hle.1 hle.2 0 0 0 3 [] (.inr ⟨by omega, rfl, rfl, rfl, rfl, rfl⟩) w hA hB)
    · have hlim : 140 < (prN p c n xs ys).length ∨ 140 < (prN p c n ys xs).length := by omega
      exact com_walk p c n p c n q1 q2 cap1 cap2 xs ys hts hts2 hx w hR1 hR2 0 0 0 3 [] h0 (by simp) (fun a cap a2 cap2 w hA hB => res0 (comS_lim p c n a cap a2 cap2 xs ys hts hx1 hts2 hy1 hk e1 e2 hlim w hA hB)) (fun a cap a2 cap2 w hA hB => res0 (comI_lim p c n a cap a2 cap2 xs ys hts hx1 hts2 hy1 hk e1 e2 hlim w hA hB))
  · exact com_walk p c n p2 c2 n2 q1 q2 cap1 cap2 xs ys hts hts2 hx w hR1 hR2 0 0 0 _ [] h0 (by simp) (fun a cap a2 cap2 w hA hB => res0 (comS_bad p c n p2 c2 n2 a cap a2 cap2 xs ys hts hx1 hts2 hy1 hpw hpw2 _ rfl hk w hA hB)) (fun a cap a2 cap2 w hA hB => res0 (comI_bad p c n p2 c2 n2 a cap a2 cap2 xs ys hts hx1 hts2 hy1 _ rfl hk w hA hB))
theorem com_all (p c n p2 c2 n2 : Int) (q1 q2 : Option Addr) (cap1 cap2 : Nat) (xs ys : List Tm) (hok : ∀ t ∈ xs, OkTm t) (hok2 : ∀ t ∈ ys, OkTm t) (hm : xs.length ≤ maxLen) (hm2 : ys.length ≤ maxLen) (hpw : -9223372036854775808 ≤ p ∧ p ≤ 9223372036854775807) (hpw2 : -9223372036854775808 ≤ p2 ∧ p2 ≤ 9223372036854775807) (w : World) (hR1 : RdT w q1 xs) (hR2 : RdT w q2 ys) :
    Calls Try.prog 8 #[.agg (ecl p c n (.slice q1 xs.length cap1)), .agg (ecl p2 c2 n2 (.slice q2 ys.length cap2))] w fun e w' => e = .returned (.bool true) ∧ Below w.heap.size w w' := by
  have hts : ∀ t ∈ xs, t.2.1.length = 16 ∧ Bytes t.2.1 := fun t ht => hok t ht
  have hts2 : ∀ t ∈ ys, t.2.1.length = 16 ∧ Bytes t.2.1 := fun t ht => hok2 t ht
  by_cases h : xs.length + ys.length ≤ 1048576
  · exact com_law p c n p2 c2 n2 q1 q2 cap1 cap2 xs ys hts hts2 h hpw hpw2 w hR1 hR2
  · by_cases h1 : xs.length ≤ 1048576
    · exact com_big2 p c n p2 c2 n2 q1 q2 xs.length ys.length cap1 cap2 w h1 hm2 (by omega)
    · exact com_big p c n p2 c2 n2 q1 q2 xs.length ys.length cap1 cap2 w hm (by omega)
end Go.Proofs.Ytpmcngmphkegnaa
