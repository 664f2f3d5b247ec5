/- The law of PartialClosure. (Written by genpce.py.) -/
import Derived.Test.YtpmcngmphkegnaaPcx
import Derived.Test.YtpmcngmphkegnaaPce
namespace Go.Proofs.Ytpmcngmphkegnaa
open Go.RowKit Go.Lib
set_option linter.unusedVariables false
set_option linter.unusedSimpArgs false
theorem pce_law (p c n : Int) (q : Option Addr) (cap : Nat) (ts : List Tm) (hts : ∀ t ∈ ts, t.2.1.length = 16 ∧ Bytes t.2.1) (hx : ts.length ≤ 1048576) (hpw : -9223372036854775808 ≤ p ∧ p ≤ 9223372036854775807) (w : World) (hR : RdT w q ts) :
    Calls Try.prog 9 #[.agg (ecl p c n (.slice q ts.length cap))] w fun e w' => e = .returned (.bool true) ∧ Below w.heap.size w w' := by
  have h0 : L16 [] := fun t ht => by cases ht
  cases he : elB p c n ts with
  | false => exact pce_walk p c n q cap ts hts hx w hR 0 0 0 1 [] h0 (by simp) (fun a cap w hR => res0 (pceS_b1 p c n a cap ts hts hx hpw he w hR)) (fun a cap w hR => res0 (pceI_b1 p c n a cap ts hts hx he w hR))
  | true =>
    by_cases h8 : n ≠ 1
    · obtain ⟨_, _, hn, hl0, _, hsz, hp, hp2, hto⟩ := elB_good he hts
      have hG : GoodT p (mvN p c (n - 1) (fun ms => clL n ms) (fun ms => clO n ms) ts) := mvN_good (by omega) (fun t ht => by
        have h1 := hsz t ht
        have h2 : VD (t.1, t.2.1) := (hto t ht).1
        rw [h1] at h2
        exact pce_vd h8 h2)
      have hln := mvN_len p c (n - 1) (fun ms => clL n ms) (fun ms => clO n ms) ts
      exact pce_walk p c n q cap ts hts hx w hR p c (n - 1) 0 _ (good16 hG) (by omega) (fun a cap w hR => pceS_ok p c n a cap ts hts hx he h8 w hR) (fun a cap w hR => pceI_ok p c n a cap ts hts hx he h8 w hR)
    · have hne : n = 1 := by omega
      exact pce_walk p c n q cap ts hts hx w hR 0 0 0 2 [] h0 (by simp) (fun a cap w hR => res0 (pceS_b2 p c n a cap ts hts hx hpw he hne w hR)) (fun a cap w hR => res0 (pceI_b2 p c n a cap ts hts hx he hne w hR))
theorem pce_all (p c n : Int) (q : Option Addr) (cap : Nat) (ts : List Tm) (hok : ∀ t ∈ ts, OkTm t) (hm : ts.length ≤ maxLen) (hpw : -9223372036854775808 ≤ p ∧ p ≤ 9223372036854775807) (w : World) (hR : RdT w q ts) :
    Calls Try.prog 9 #[.agg (ecl p c n (.slice q ts.length cap))] w fun e w' => e = .returned (.bool true) ∧ Below w.heap.size w w' := by
  have hts : ∀ t ∈ ts, t.2.1.length = 16 ∧ Bytes t.2.1 := fun t ht => hok t ht
  by_cases h : ts.length ≤ 1048576
  · exact pce_law p c n q cap ts hts h hpw w hR
  · exact pce_big p c n q ts.length cap w hm (by omega)
end Go.Proofs.Ytpmcngmphkegnaa
