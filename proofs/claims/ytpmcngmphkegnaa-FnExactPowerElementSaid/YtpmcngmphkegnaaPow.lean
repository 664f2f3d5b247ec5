/- The law of PowerElement. (Written by genpow.py.) -/
import Derived.Test.YtpmcngmphkegnaaPwk
import Derived.Test.YtpmcngmphkegnaaPwi
import Derived.Test.YtpmcngmphkegnaaPws
namespace Go.Proofs.Ytpmcngmphkegnaa
open Go.RowKit Go.Lib
set_option linter.unusedVariables false
set_option linter.unusedSimpArgs false
theorem powI_b2 (p c n k : Int) (a cap : Nat) (ts : List Tm) (hts : ∀ t ∈ ts, t.2.1.length = 16 ∧ Bytes t.2.1) (hx : ts.length ≤ 1048576) (he : elB p c n ts = true) (hk : ¬ (0 ≤ k ∧ k ≤ 20)) (w : World) (hR : RdT w (some ⟨a, 0, none⟩) ts) :
    Calls Try.prog 28 #[.agg (ecl p c n (.slice (some ⟨a, 0, none⟩) ts.length cap)), .int .i64 k] w fun e w' => e = .returned (.tuple #[.agg (ecl 0 0 0 (.slice none 0 0)), .int .i64 2]) ∧ Below w.heap.size w w' := by
  by_cases h : k < 0
  · exact powaI_b2 p c n k a cap ts hts hx he h w hR
  · exact powbI_b2 p c n k a cap ts hts hx he h (by omega) w hR
theorem pow_law (p c n k : Int) (q : Option Addr) (cap : Nat) (ts : List Tm) (hts : ∀ t ∈ ts, t.2.1.length = 16 ∧ Bytes t.2.1) (hx : ts.length ≤ 1048576) (hpw : -9223372036854775808 ≤ p ∧ p ≤ 9223372036854775807) (w : World) (hR : RdT w q ts) :
    Calls Try.prog 7 #[.agg (ecl p c n (.slice q ts.length cap)), .int .i64 k] w fun e w' => e = .returned (.bool true) ∧ Below w.heap.size w w' := by
  have h0 : L16 [] := fun t ht => by cases ht
  cases he : elB p c n ts with
  | false => exact pow_walk p c n q cap ts hts hx k w hR 0 0 0 1 [] h0 (by simp) (fun a cap w hR => res0 (powS_b1 p c n k a cap ts hts hx hpw he w hR)) (fun a cap w hR => res0 (powI_b1 p c n k a cap ts hts hx he w hR))
  | true =>
    by_cases hk : 0 ≤ k ∧ k ≤ 20
    · obtain ⟨kN, rfl⟩ : ∃ m : Nat, k = m := ⟨k.toNat, by omega⟩
      obtain ⟨_, _, hn, hl0, hG0, hsz, hp, hp2, hto⟩ := elB_good he hts
      cases hr : pwR p c n ts kN with
      | none =>
        have hres : PwA p c n ts kN 0 0 0 3 [] := .inr ⟨hr, rfl, rfl, rfl, rfl, rfl⟩
        exact pow_walk p c n q cap ts hts hx kN w hR 0 0 0 3 [] h0 (by simp) (fun a cap w hR => powS_ok p c n kN (by omega) a cap ts hts hx he 0 0 0 3 [] hres w hR) (fun a cap w hR => powI_ok p c n kN (by omega) a cap ts hts hx he 0 0 0 3 [] hres w hR)
      | some L =>
        have hres : PwA p c n ts kN p c n 0 L := .inl ⟨hr, rfl, rfl, rfl, rfl⟩
        have hok := pwR_ok hp hp2 hn.1 hn.2 ⟨hG0, hsz, hl0⟩ kN L hr
        exact pow_walk p c n q cap ts hts hx kN w hR p c n 0 L (good16 hok.1) (by have := hok.2.2; omega) (fun a cap w hR => powS_ok p c n kN (by omega) a cap ts hts hx he p c n 0 L hres w hR) (fun a cap w hR => powI_ok p c n kN (by omega) a cap ts hts hx he p c n 0 L hres w hR)
    · exact pow_walk p c n q cap ts hts hx k w hR 0 0 0 2 [] h0 (by simp) (fun a cap w hR => res0 (powS_b2 p c n k a cap ts hts hx hpw he hk w hR)) (fun a cap w hR => res0 (powI_b2 p c n k a cap ts hts hx he hk w hR))
theorem pow_all (p c n k : Int) (q : Option Addr) (cap : Nat) (ts : List Tm) (hok : ∀ t ∈ ts, OkTm t) (hm : ts.length ≤ maxLen) (hpw : -9223372036854775808 ≤ p ∧ p ≤ 9223372036854775807) (w : World) (hR : RdT w q ts) :
    Calls Try.prog 7 #[.agg (ecl p c n (.slice q ts.length cap)), .int .i64 k] w fun e w' => e = .returned (.bool true) ∧ Below w.heap.size w w' := by
  have hts : ∀ t ∈ ts, t.2.1.length = 16 ∧ Bytes t.2.1 := fun t ht => hok t ht
  by_cases h : ts.length ≤ 1048576
  · exact pow_law p c n k q cap ts hts h hpw w hR
  · exact pow_big p c n q ts.length cap k w hm (by omega)
end Go.Proofs.Ytpmcngmphkegnaa
