/- Plain mathematics: the upper half of a diagram is a half diagram, and one of the list; lists of half diagrams have none twice. Lists of half diagrams: how many there are, and that each has arcs. What a diagram does to the half diagrams of the list, once for both. CellTable: the model's table. CellTable: the program's table. -/
import Derived.Test.YtopenojociafaaaDoorArcM
import Derived.Test.YtopenojociafaaaDoorDiaA
import Derived.Test.YtopenojociafaaaDoorHalfM
import Derived.Test.YtopenojociafaaaDoorGmf
import Derived.Test.YtopenojociafaaaDoorGna
import Derived.Test.YtopenojociafaaaDoorHalfS
import Derived.Test.YtopenojociafaaaDoorGyMulS
import Derived.Test.YtopenojociafaaaDoorGmd
namespace Go.Proofs.YtopenojociafaaaDoor
open Go.RowKit
set_option linter.unusedVariables false
/-- The letter of the upper point k. -/
theorem half_get (N : Nat) (ms : List Int) (k : Nat) (hk : k < N) : ((hfL N 0 ms N).map fun x => UInt8.ofNat x.toNat)[k]? = some (UInt8.ofNat (hch N 0 (ms.getD k 0) k).toNat) := by
  have h : ∀ m, k < m → (hfL N 0 ms m)[k]? = some (hch N 0 (ms.getD k 0) k) := by
    intro m
    induction m with
    | zero => intro h; omega
    | succ m ih =>
      intro h
      rw [hfL]
      by_cases e : k < m
      · rw [List.getElem?_append_left (by rw [hfL_len]; exact e)]; exact ih e
      · have e2 : k = m := by omega
        subst e2
        rw [List.getElem?_append_right (by rw [hfL_len]; omega), hfL_len, Nat.sub_self]
        simp
  rw [List.getElem?_map, h N hk]
  rfl
/-- The places that are open behind k letters: in order, and just those with a mate from k on. -/
def StI (N : Nat) (ms : List Int) (k : Nat) (st : List Nat) : Prop := st.Pairwise (· < ·) ∧ ∀ j, j ∈ st ↔ j < k ∧ (k : Int) ≤ qq N ms j ∧ qq N ms j < N
theorem ast_half (N : Nat) (ms : List Int) (hb : Bytes ms) (hn : Net (N : Int) ms) (k : Nat) (hk : k ≤ N) : ∃ o st, ast ((hfL N 0 ms N).map fun x => UInt8.ofNat x.toNat) k = some (o, st) ∧ StI N ms k st := by
  induction k with
  | zero => exact ⟨z8, [], rfl, List.Pairwise.nil, fun j => by simp⟩
  | succ k ih =>
    obtain ⟨o, st, ha, hs, hm⟩ := ih (by omega)
    obtain ⟨b1, b8⟩ := hn.bd
    have hg := half_get N ms k (by omega)
    obtain ⟨q0, q1, q2⟩ := hn.lt k (by omega) (by omega)
    have hmt := hn.mt k (by omega) (by omega)
    have hpk : pl (N : Int) k = k := by unfold pl; rw [if_pos (by omega)]
    rw [hpk] at hmt
    have hmk : ms.getD k 0 = pl N (qq N ms k) := by rw [← hmt]; rfl
    by_cases c1 : (N : Int) ≤ qq N ms k
    · -- a line that goes through
      have hl : hch N 0 (ms.getD k 0) k = 124 := by
        have e : pl (N : Int) (qq N ms k) = 3 * N - 1 - qq N ms k := by unfold pl; rw [if_neg (by omega)]
        unfold hch
        rw [hmk, e, if_pos (by omega)]
      rw [hl] at hg
      have he : st = [] := by
        cases st with
        | nil => rfl
        | cons j t =>
          exfalso
          obtain ⟨a1, a2, a3⟩ := (hm j).1 (by simp)
          by_cases e : qq N ms j = k
          · have := hn.inv j (by omega) (by omega)
            rw [e] at this; omega
          · have := hn.nest j k (by omega) (by omega) (by omega) (by omega)
            omega
      subst he
      refine ⟨_, [], ast_point _ _ _ ha hg, List.Pairwise.nil, fun j => ⟨fun h => (by simp at h), fun ⟨a1, a2, a3⟩ => ?_⟩⟩
      by_cases e : j = k
      · subst e; omega
      · exact (hm j).2 ⟨by omega, by omega, a3⟩
    · by_cases c2 : (k : Int) < qq N ms k
      · have hl : hch N 0 (ms.getD k 0) k = 40 := by
          have e : pl (N : Int) (qq N ms k) = qq N ms k := by unfold pl; rw [if_pos (by omega)]
          unfold hch
          rw [hmk, e, if_neg (by omega), if_pos (by omega)]
        rw [hl] at hg
        refine ⟨_, _, ast_open _ _ _ _ ha hg, ?_, fun j => ?_⟩
        · rw [List.pairwise_append]
          exact ⟨hs, List.pairwise_singleton _ _, fun a h b hb' => by simp at hb'; subst hb'; exact ((hm a).1 h).1⟩
        · rw [List.mem_append, List.mem_singleton]
          constructor
          · rintro (h | rfl)
            · obtain ⟨a1, a2, a3⟩ := (hm j).1 h
              refine ⟨by omega, ?_, a3⟩
              by_cases e : qq N ms j = k
              · have := hn.inv j (by omega) (by omega)
                rw [e] at this; omega
              · omega
            · exact ⟨by omega, by omega, by omega⟩
          · rintro ⟨a1, a2, a3⟩
            by_cases e : j = k
            · exact Or.inr e
            · exact Or.inl ((hm j).2 ⟨by omega, by omega, a3⟩)
      · have hl : hch N 0 (ms.getD k 0) k = 41 := by
          have e : pl (N : Int) (qq N ms k) = qq N ms k := by unfold pl; rw [if_pos (by omega)]
          unfold hch
          rw [hmk, e, if_neg (by omega), if_neg (by omega)]
        rw [hl] at hg
        obtain ⟨y, hy⟩ : ∃ y : Nat, qq N ms k = y := ⟨(qq N ms k).toNat, by omega⟩
        have hyk : qq N ms y = k := by have := hn.inv k (by omega) (by omega); rw [hy] at this; exact this
        have hyin : y ∈ st := (hm y).2 ⟨by omega, by omega, by omega⟩
        rcases List.eq_nil_or_concat st with e | ⟨t, x, e⟩
        · rw [e] at hyin; simp at hyin
        · rw [List.concat_eq_append] at e
          subst e
          rw [List.pairwise_append] at hs
          obtain ⟨hs1, _, hs2⟩ := hs
          have hx := (hm x).1 (by simp)
          have hxy : x = y := by
            rw [List.mem_append, List.mem_singleton] at hyin
            rcases hyin with h | h
            · exfalso
              have hlt := hs2 y h x (by simp)
              have := hn.nest y x (by omega) (by omega) (by omega) (by omega)
              omega
            · exact h.symm
          subst hxy
          refine ⟨_, _, ast_close _ _ _ _ _ ha hg, hs1, fun j => ⟨fun h => ?_, fun ⟨a1, a2, a3⟩ => ?_⟩⟩
          · obtain ⟨a1, a2, a3⟩ := (hm j).1 (by simp [h])
            refine ⟨by omega, ?_, a3⟩
            by_cases e : qq N ms j = k
            · have h1 := hn.inv j (by omega) (by omega)
              rw [e, hy] at h1
              have := hs2 j h x (by simp)
              omega
            · omega
          · by_cases e : j = k
            · subst e; omega
            · have := (hm j).2 ⟨by omega, by omega, a3⟩
              rw [List.mem_append, List.mem_singleton] at this
              rcases this with h | h
              · exact h
              · subst h; omega
theorem half_arc (N : Nat) (ms : List Int) (hb : Bytes ms) (hn : Net (N : Int) ms) : ∃ o, arcO ((hfL N 0 ms N).map fun x => UInt8.ofNat x.toNat) = some o := by
  obtain ⟨o, st, ha, hs, hm⟩ := ast_half N ms hb hn N (Nat.le_refl _)
  obtain ⟨b1, b8⟩ := hn.bd
  have he : st = [] := by
    cases st with
    | nil => rfl
    | cons j t =>
      exfalso
      obtain ⟨a1, a2, a3⟩ := (hm j).1 (by simp)
      omega
  subst he
  have hl : ((hfL N 0 ms N).map fun x => UInt8.ofNat x.toNat).length = N := by rw [List.length_map, hfL_len]
  exact ⟨o, arc_some _ (by rw [hl]; omega) (by rw [hl]; omega) o (by rw [hl]; exact ha)⟩
theorem tx3_in (n : Nat) : ∀ l : List UInt8, l.length = n → (∀ k, k < n → l[k]? = some 40 ∨ l[k]? = some 41 ∨ l[k]? = some 124) → l ∈ tx3 n := by
  induction n with
  | zero => intro l h _; have : l = [] := List.length_eq_zero_iff.1 h; subst this; simp [tx3]
  | succ n ih =>
    intro l hl hx
    rcases List.eq_nil_or_concat l with e | ⟨t, x, e⟩
    · rw [e] at hl; simp at hl
    · rw [List.concat_eq_append] at e
      subst e
      have ht : t.length = n := by simpa using hl
      rw [tx3, List.mem_flatMap]
      refine ⟨t, ih t ht (fun k hk => ?_), ?_⟩
      · have := hx k (by omega)
        rwa [List.getElem?_append_left (by omega)] at this
      · have := hx n (by omega)
        rw [List.getElem?_append_right (by omega), ht, Nat.sub_self] at this
        simp at this
        rcases this with rfl | rfl | rfl <;> simp
/-- The upper half of a diagram is one of the list. -/
theorem half_in (N : Nat) (ms : List Int) (hb : Bytes ms) (hn : Net (N : Int) ms) (k : Nat) (hk : k ≤ N) (he : (N - k) % 2 = 0) (hc : ((hfL N 0 ms N).map fun x => UInt8.ofNat x.toNat).count 124 = k) :
    (hfL N 0 ms N).map (fun x => UInt8.ofNat x.toNat) ∈ allH N k := by
  obtain ⟨o, ha⟩ := half_arc N ms hb hn
  obtain ⟨b1, b8⟩ := hn.bd
  rw [← tx3_all N k (by omega) (by omega) hk he, List.mem_filter]
  refine ⟨tx3_in N _ (by rw [List.length_map, hfL_len]) (fun i hi => ?_), by unfold okH; rw [ha, hc]; simp⟩
  rw [half_get N ms i hi]
  unfold hch
  split
  · exact Or.inr (Or.inr rfl)
  · split
    · exact Or.inl rfl
    · exact Or.inr (Or.inl rfl)
set_option maxRecDepth 1000000 in
set_option maxHeartbeats 0 in
theorem allH_nodup (n k : Nat) (h1 : 1 ≤ n) (h6 : n ≤ 6) (hk : k ≤ n) (he : (n - k) % 2 = 0) : (allH n k).Nodup := by
  have h : n = 1 ∨ n = 2 ∨ n = 3 ∨ n = 4 ∨ n = 5 ∨ n = 6 := by omega
  have h2 : k = 0 ∨ k = 1 ∨ k = 2 ∨ k = 3 ∨ k = 4 ∨ k = 5 ∨ k = 6 := by omega
  rcases h with rfl | rfl | rfl | rfl | rfl | rfl <;> rcases h2 with rfl | rfl | rfl | rfl | rfl | rfl | rfl <;> first | (exfalso; omega) | decide +kernel
end Go.Proofs.YtopenojociafaaaDoor
namespace Go.Proofs.YtopenojociafaaaDoor
open Go.RowKit
set_option linter.unusedVariables false
set_option linter.unusedSimpArgs false
theorem allH_len6 (n k : Nat) (h1 : 1 ≤ n) (h6 : n ≤ 6) (hk : k ≤ n) (he : (n - k) % 2 = 0) : 1 ≤ (allH n k).length ∧ (allH n k).length ≤ 200 := by
  have h : n = 1 ∨ n = 2 ∨ n = 3 ∨ n = 4 ∨ n = 5 ∨ n = 6 := by omega
  have h2 : k = 0 ∨ k = 1 ∨ k = 2 ∨ k = 3 ∨ k = 4 ∨ k = 5 ∨ k = 6 := by omega
  rcases h with rfl | rfl | rfl | rfl | rfl | rfl <;> rcases h2 with rfl | rfl | rfl | rfl | rfl | rfl | rfl <;> first | (exfalso; omega) | decide +kernel
theorem allH_arc (n k : Nat) (h1 : 1 ≤ n) (h8 : n ≤ 8) (hk : k ≤ n) (he : (n - k) % 2 = 0) (i : Nat) (hi : i < (allH n k).length) : ((allH n k).getD i []).length = n ∧ ∃ o, arcO ((allH n k).getD i []) = some o := by
  have hm : (allH n k).getD i [] ∈ allH n k := by
    rw [List.getD_eq_getElem?_getD, List.getElem?_eq_getElem hi]
    exact List.getElem_mem hi
  generalize (allH n k).getD i [] = t at *
  rw [← tx3_all n k h1 h8 hk he, List.mem_filter] at hm
  obtain ⟨ht, ho⟩ := hm
  unfold okH at ho
  rw [Bool.and_eq_true] at ho
  refine ⟨?_, Option.isSome_iff_exists.1 ho.1⟩
  obtain ⟨q, hq, hqe⟩ := List.getElem_of_mem ht
  have := tx3_txt n q hq
  rw [List.getD_eq_getElem?_getD, List.getElem?_eq_getElem hq, Option.getD_some, hqe] at this
  exact this
end Go.Proofs.YtopenojociafaaaDoor
namespace Go.Proofs.YtopenojociafaaaDoor
open Go.RowKit
set_option linter.unusedVariables false
set_option linter.unusedSimpArgs false
theorem loops_bd8 (n : Int) (d e : Int → Int) (h1 : 1 ≤ n) (h8 : n ≤ 8) : 0 ≤ loopsP n d e ∧ loopsP n d e ≤ 8 := by
  have := LoopM.lps_bd e (vD n d) (metA n d e) n.toNat
  unfold loopsP; omega
/-- The text of an answer: a half diagram of the list, or none. -/
def acT (LL : List ByteArray) (q : Option Nat) : ByteArray := match q with | some j => LL.getD j ByteArray.empty | none => ⟨#[]⟩
theorem acts_ex (n k : Nat) (h1 : 1 ≤ n) (h6 : n ≤ 6) (hk : k ≤ n) (he : (n - k) % 2 = 0) (ms : List Int) (hms : ms.length = 16) (hb : Bytes ms) (hd : isD n ms = true) (m : Int) :
    ∃ (f : Nat → Option Nat) (lp : Nat → Nat), ∀ i, i < (allH n k).length → lp i ≤ 1000 ∧ (∀ j, f i = some j → j < (allH n k).length) ∧
      (∀ w1, Calls Tryd.prog 56 #[.agg (dcells n ms), .string ((bsl (allH n k)).getD i ByteArray.empty)] w1 fun e w2 => e = .returned (.tuple #[.string (acT (bsl (allH n k)) (f i)), .int .i64 (lp i : Nat)]) ∧ Below w1.heap.size w1 w2) ∧
      (∀ w1, Ml w1 m → Calls Tryd.prog 35 #[.agg (dcells n ms), .string ((bsl (allH n k)).getD i ByteArray.empty)] w1 fun e w2 => e = .returned (.tuple #[.string (acT (bsl (allH n k)) (f i)), .int .i64 (lp i : Nat)]) ∧ Below w1.heap.size w1 w2) := by
  have H : ∀ i, ∃ q : Option Nat × Nat, i < (allH n k).length → q.2 ≤ 1000 ∧ (∀ j, q.1 = some j → j < (allH n k).length) ∧
      (∀ w1, Calls Tryd.prog 56 #[.agg (dcells n ms), .string ((bsl (allH n k)).getD i ByteArray.empty)] w1 fun e w2 => e = .returned (.tuple #[.string (acT (bsl (allH n k)) q.1), .int .i64 (q.2 : Nat)]) ∧ Below w1.heap.size w1 w2) ∧
      (∀ w1, Ml w1 m → Calls Tryd.prog 35 #[.agg (dcells n ms), .string ((bsl (allH n k)).getD i ByteArray.empty)] w1 fun e w2 => e = .returned (.tuple #[.string (acT (bsl (allH n k)) q.1), .int .i64 (q.2 : Nat)]) ∧ Below w1.heap.size w1 w2) := fun i => by
    by_cases hi : i < (allH n k).length
    · obtain ⟨l1, o1, e1⟩ := allH_arc n k h1 (by omega) hk he i hi
      have hcnt : ((allH n k).getD i []).count 124 = k := by
        have hm : (allH n k).getD i [] ∈ allH n k := by
          rw [List.getD_eq_getElem?_getD, List.getElem?_eq_getElem hi]
          exact List.getElem_mem hi
        generalize (allH n k).getD i [] = t at *
        rw [← tx3_all n k h1 (by omega) hk he, List.mem_filter] at hm
        have := hm.2
        unfold okH at this
        rw [Bool.and_eq_true] at this
        simpa using this.2
      rw [bsl_getB _ _ hi]
      generalize (allH n k).getD i [] = al at *
      obtain ⟨a, ha⟩ : ∃ a, bsv al = a := ⟨_, rfl⟩
      have hal : a.data.toList = al := by rw [← ha]; simp [bsv]
      have has : a.size = n := by rw [← ha, bsv_size]; exact l1
      rw [ha]
      rw [← hal] at e1 hcnt
      obtain ⟨es, q0, q1, q2, q3, q4, q5, q6⟩ := self_hd e1
      have la : a.data.toList.length = n := by rw [hal]; exact l1
      rw [la] at q0 q1 q3 q5 q6
      have hs := (isD_iff n ms hms hb).1 hd
      have hu := upo_le n ms es (by omega) (by omega) hb q2 hs q3
      have hpd := prodD2 n ms es hb q2 hs q3
      have hch := cnt_half n (prodL n (mate ms) (mate es)) hpd.1
      have hIP := fun w1 => prodI_any n ms es hms q4 hb q2 hs q3 w1
      have hSP := fun w1 => timesS_any n ms es hms q4 hb q2 hs q3 w1
      have hrl := prodL_len n (mate ms) (mate es)
      have hlb := loops_bd8 n (mate ms) (mate es) (by omega) (by omega)
      obtain ⟨rs, hrs⟩ : ∃ rs, prodL n (mate ms) (mate es) = rs := ⟨_, rfl⟩
      obtain ⟨lpi, hlp⟩ : ∃ lp, loopsP n (mate ms) (mate es) = lp := ⟨_, rfl⟩
      rw [hrs] at hu hpd hch hIP hSP hrl
      rw [hlp] at hIP hSP hlb
      obtain ⟨lp, rfl⟩ : ∃ lp : Nat, lpi = lp := ⟨lpi.toNat, by omega⟩
      have hIF := fun w1 => halfI_any n 0 rs hrl hpd.1 w1 (by omega) (by omega) (.inl rfl)
      have hSF := fun w1 => halfS_up n rs hrl hpd.1 w1 (by omega) (by omega)
      have hhs : (halfB n 0 rs).size ≤ 1048576 := by unfold halfB; rw [strOfNums_size, hfL_len]; omega
      have hHl : (halfB n 0 rs).data.toList = (hfL n 0 rs n).map fun x => UInt8.ofNat x.toNat := by
        unfold halfB strOfNums
        simp
      have hin := half_in n rs hpd.1 (Net.of hpd.1 hpd.2) k hk he
      rw [← hHl] at hin
      obtain ⟨H, hH⟩ : ∃ H, halfB n 0 rs = H := ⟨_, rfl⟩
      rw [hH] at hIF hSF hhs hch hin
      have hca : cnt a.data.toList = (k : Int) := by
        have : cnt a.data.toList = ((a.data.toList.count 124 : Nat) : Int) := rfl
        rw [this, hcnt]
      have hle : cnt H.data.toList ≤ cnt a.data.toList := by rw [hch, q6]; exact_mod_cast hu
      have SH : ∀ w1, Calls Tryd.prog 77 #[.string a, .string a] w1 fun e w2 => e = .returned (.agg (dcells n es)) ∧ Below w1.heap.size w1 w2 := fun w1 => by
        have := hdS_any a a n has has o1 o1 e1 e1 q5 w1
        rw [q0] at this; exact this
      have IH : ∀ w1, Ml w1 m → Calls Tryd.prog 52 #[.string a, .string a] w1 fun e w2 => e = .returned (.agg (dcells n es)) ∧ Below w1.heap.size w1 w2 := fun w1 h => hdI_any a a m w1 h (by omega) (by omega) _ _ q1
      by_cases hc : cnt H.data.toList = cnt a.data.toList
      · have hHin := hin (by
          have : cnt H.data.toList = ((H.data.toList.count 124 : Nat) : Int) := rfl
          rw [hc, hca] at this
          exact_mod_cast this.symm)
        obtain ⟨j, hj, hje⟩ := List.getElem_of_mem hHin
        have hHe : acT (bsl (allH n k)) (some j) = H := by
          show (bsl (allH n k)).getD j ByteArray.empty = H
          rw [bsl_getB _ _ hj, List.getD_eq_getElem?_getD, List.getElem?_eq_getElem hj, Option.getD_some, hje]
          simp [bsv]
        refine ⟨(some j, lp), fun _ => ⟨by show lp ≤ 1000; omega, (fun j' h => by injection h with h; omega), fun w1 => ?_, fun w1 h => ?_⟩⟩
        · rw [hHe]
          exact actS_eq n ms es rs hms hrl a H lp _ _ w1 (fun w3 _ => SH w3) hSP hSF (fun w3 => cntS_any H w3 hhs) (fun w3 => cntS_any a w3 (by omega)) hc
        · rw [hHe]
          exact actI_eq n ms es rs hms hrl a H lp _ _ w1 (fun w3 h3 => IH w3 (h.below h3 h.lt)) hIP hIF (fun w3 => cntI_any H w3) (fun w3 => cntI_any a w3) hc
      · have hc2 : cnt H.data.toList < cnt a.data.toList := by omega
        refine ⟨(none, lp), fun _ => ⟨by show lp ≤ 1000; omega, (fun j' h => by cases h), fun w1 => ?_, fun w1 h => ?_⟩⟩
        · exact actS_lt n ms es rs hms hrl a H lp _ _ w1 (fun w3 _ => SH w3) hSP hSF (fun w3 => cntS_any H w3 hhs) (fun w3 => cntS_any a w3 (by omega)) hc2
        · exact actI_lt n ms es rs hms hrl a H lp _ _ w1 (fun w3 h3 => IH w3 (h.below h3 h.lt)) hIP hIF (fun w3 => cntI_any H w3) (fun w3 => cntI_any a w3) hc2
    · exact ⟨(none, 0), fun h => absurd h hi⟩
  refine ⟨fun i => (Classical.choose (H i)).1, fun i => (Classical.choose (H i)).2, fun i hi => ?_⟩
  exact Classical.choose_spec (H i) hi
end Go.Proofs.YtopenojociafaaaDoor
namespace Go.Proofs.YtopenojociafaaaDoor
open Go.RowKit
set_option linter.unusedVariables false
set_option linter.unusedSimpArgs false
theorem bytes_ne {a b : ByteArray} (h : ¬ a = b) : (a.toList == b.toList) = false := by
  rw [beq_eq_false_iff_ne, ByteArray.toList_eq, ByteArray.toList_eq]
  exact fun e => h (ByteArray.ext (Array.toList_inj.1 e))
/-- Where the number of a row is that is not 0. -/
def cgd (f : Nat → Option Nat) (i j : Nat) : Bool := decide (f i = some j)
theorem gen_wdc {P : Program} {c : Code} {Q : Exit → Act → World → Prop} {a : Act} {W : World} (S : World → Prop) (h : S W) (k : ∀ x, S x → c.wp P Q a x) : c.wp P Q a W := k W h
/-- A text of the list is the answer just at its place. -/
theorem acT_iff (LL : List ByteArray) (hn : LL.Nodup) (he : ∀ x ∈ LL, x ≠ ⟨#[]⟩) (f : Nat → Option Nat) (i : Nat) (hq : ∀ j, f i = some j → j < LL.length) (j : Nat) (hj : j < LL.length) : LL.getD j ByteArray.empty = acT LL (f i) ↔ cgd f i j = true := by
  have hjm : LL.getD j ByteArray.empty ∈ LL := by
    rw [List.getD_eq_getElem?_getD, List.getElem?_eq_getElem hj]
    exact List.getElem_mem hj
  unfold cgd
  rw [decide_eq_true_eq]
  cases hf : f i with
  | none => exact ⟨fun h => absurd h (he _ hjm), fun h => by cases h⟩
  | some r =>
    have hi := hq r hf
    refine ⟨fun h => ?_, fun h => by injection h with h; subst h; rfl⟩
    have h' : LL.getD j ByteArray.empty = LL.getD r ByteArray.empty := h
    rw [List.getD_eq_getElem?_getD, List.getD_eq_getElem?_getD, List.getElem?_eq_getElem hj, List.getElem?_eq_getElem hi] at h'
    simp only [Option.getD_some] at h'
    rw [(List.getElem_inj hn).1 h']
set_option maxRecDepth 100000 in
set_option maxHeartbeats 4000000 in
theorem cellS_any (p c : Int) (p2 : 2 ≤ p) (p97 : p ≤ 97) (c0 : 0 ≤ c) (c1 : c < p) (a1 a2 : Int) (ms : List Int) (hms : ms.length = 16) (N : Nat) (hN : N ≤ 200) (LL : List ByteArray) (hLL : LL.length = N) (f : Nat → Option Nat) (lp : Nat → Nat) (hlp0 : ∀ i, i < N → lp i ≤ 1000)
    (hE0 : ∀ i j, i < N → j < N → (LL.getD j ByteArray.empty = acT LL (f i) ↔ cgd f i j = true))
    (hL0 : ∀ w, Calls Tryd.prog 43 #[.int .i64 a1, .int .i64 a2] w fun e w' => ∃ g cap, e = .returned (.slice (some ⟨g, 0, none⟩) N cap) ∧ TMn w' w.heap.size (some ⟨g, 0, none⟩) LL ∧ Below w.heap.size w w')
    (hP0 : ∀ i, i < N → ∀ w, Calls Tryd.prog 56 #[.agg (dcells a1 ms), .string (LL.getD i ByteArray.empty)] w fun e w' => e = .returned (.tuple #[.string (acT LL (f i)), .int .i64 (lp i : Nat)]) ∧ Below w.heap.size w w')
    (w : World) :
    Calls Tryd.prog 32 #[.int .i64 p, .int .i64 c, .agg (dcells a1 ms), .int .i64 a2] w fun e w' => ∃ v vs, e = .returned v ∧ Rws w' w.heap.size v vs ∧ vs.length = N ∧ RwG w' w.heap.size (fun i => gL p c (cgd f) (fun i _ => lp i) N i N) N vs N ∧ Dst vs ∧ Below w.heap.size w w' := by
  have hl := Lib.hid hms
  have hL := Lib.hid hL0
  have hP := Lib.hid hP0
  have hlp := Lib.hid hlp0
  have hE := Lib.hid hE0
  have HN := Lib.hid hLL
  have hpw := Lib.hid (fun (k : Nat) w1 (hk : k ≤ 1000) => powS_any p c k w1 p2 p97 c0 c1 hk)
  have hmk := makeI N (by omega)
  have c00 := dcells_zero a1 ms
  have k0 : (w.alloc (.cells (dcells a1 ms) 32)).cell? ⟨w.heap.size, 0, none⟩ = some (.int .i64 a1) := by rw [(Own.new w _ _).cell]; exact c00
  clear hL0 hP0 hlp0 hLL hE0 hms c00
  go_enter Tryd.func32, Tryd.ntmps32
  go_wp2_with (first
    | (go_at_call 43; ((with_reducible refine (hL.out _).mono ?_); rintro e w1 ⟨gl, capl, rfl, hT, hB1⟩)))
  have HT1 := Lib.hid hT.rd
  have HD1 := Lib.hid ((Own.new w (dcells a1 ms) 32).below hB1 (by simp))
  have hBx := Lib.hid (((Below.refl w.heap.size w).alloc (Nat.le_refl _) (.cells (dcells a1 ms) 32)).trans (hB1.mono (by simp)))
  have hs1 := hB1.size
  have hs0 : w.heap.size < w1.heap.size := by simp at hs1; omega
  clear hB1 hT k0
  go_loopw [10, 11] (fun o i wr => ∃ (k : Nat) (vs : List Value), k ≤ N ∧ i = .int .i64 k ∧ vs.length = k ∧ Rws wr w1.heap.size o vs ∧ RwG wr w1.heap.size (fun i => gL p c (cgd f) (fun i _ => lp i) N i N) N vs k ∧ Dst vs ∧ Below w1.heap.size w1 wr) (fun _ i _ => ((N : Int) - intOf i).toNat)
  case atStart => exact ⟨0, [], by omega, rfl, rfl, Rws.new w1 _ (Nat.le_refl _), fun i hi => by omega, fun i j gi ci gj cj ni nj _ h1 _ => by simp at h1, (Below.refl _ _).alloc (Nat.le_refl _) _⟩
  case round =>
    obtain ⟨k, vs, hk, rfl, hvs, hR, hRT, hDs, hB⟩ := hrel
    by_cases hlt : k < N
    · have hk1 := Lib.hid (show k < LL.length by rw [HN.out]; exact hlt)
      have i1 : (k : Int) < (N : Int) := by omega
      obtain ⟨w2, rfl⟩ : ∃ x, x = wr := ⟨_, rfl⟩
      have HT := Lib.hid (HT1.out.below hB)
      have HD := Lib.hid (HD1.out.below hB HD1.out.lt)
      have HR := Lib.hid hR
      have hltb : ∀ i gi ci ni : Nat, vs[i]? = some (.slice (some ⟨gi, 0, none⟩) ni ci) → gi < w2.heap.size := fun i gi ci ni h => by
        by_cases hi : i < vs.length
        · obtain ⟨ga, ca, h1, h2⟩ := hRT i (by omega)
          rw [h1] at h
          have := h2.lt
          simp at h
          omega
        · rw [List.getElem?_eq_none (by omega)] at h
          cases h
      have HDs := Lib.hid hDs
      have HLt := Lib.hid hltb
      have HRT := Lib.hid hRT
      have HB := Lib.hid hB
      have hs2 := hB.size
      obtain ⟨sA, hsA⟩ : ∃ s, LL.getD k ByteArray.empty = s := ⟨_, rfl⟩
      have HG1 := Lib.hid hsA
      have hC := Lib.hid (hP.out k hlt)
      rw [hsA] at hC
      have hE2 := Lib.hid (fun j hj => hE.out k j hlt hj)
      have hpk := Lib.hid (fun w => hpw.out (lp k) w (hlp.out k hlt))
      have hgvk := Lib.hid (fun j => show gV p c (cgd f) (fun i _ => lp i) k j = if cgd f k j = true then pw p c (lp k) else 0 from rfl)
      obtain ⟨t, ht⟩ : ∃ t, lp k = t := ⟨_, rfl⟩
      rw [ht] at hC hpk hgvk
      obtain ⟨sO, hsO⟩ : ∃ s, acT LL (f k) = s := ⟨_, rfl⟩
      rw [hsO] at hC hE2
      clear hDs hltb hR hRT hB hsA ht hsO
      go_upto_region 6 with fail
      refine gen_wdc (fun x => Own x w2.heap.size (icells (gL p c (cgd f) (fun i _ => lp i) N k 0)) 2 ∧ Below w2.heap.size w2 x) ⟨by rw [gL_zero]; exact Own.new _ _ _, (Below.refl _ _).alloc (Nat.le_refl _) _⟩ ?_
      rintro w3 ⟨hO, hB⟩
      refine wp_region_st (fun x => Own x w2.heap.size (icells (gL p c (cgd f) (fun i _ => lp i) N k 0)) 2 ∧ Below w2.heap.size w2 x) [(true, 0), (true, 1), (true, 2), (true, 3), (true, 4), (false, 5), (true, 6), (true, 7), (true, 8), (true, 9)] 10 (by kernel_rfl) (by kernel_rfl) ⟨hO.drewN 1, Below.drewN hB 1⟩ ?_
      simp only [List.map_cons, List.map_nil, opS'_mk, opN_zero, opN_succ, List.drop_succ_cons, List.drop_zero]
      have hO8 := hO.drewN 1
      have hB8 := Below.drewN hB 1
      change Own { w3 with drawn := w3.drawn + 1 } _ _ _ at hO8
      change Below _ _ { w3 with drawn := w3.drawn + 1 } at hB8
      clear hO hB
      generalize ({ w3 with drawn := w3.drawn + 1 } : World) = w8 at *
      (apply wpSt_read; · (intro wd hS K hK; rw [if_pos (by rfl)]; refine still_load_row 32 (.tmp 6) rfl w.heap.size rfl 32 (dcells a1 ms) _ (HD.out.below hS.2 HD.out.lt) Tryd.underlying32 rfl (row26 (d17 _ _ hl.out)) ?_; exact hK))
      iterate 4 (apply wpSt_read; · (intro wd hS K hK; have d1 := (HT.out.below hS.2).cell _ rfl k hk1.out; rw [show (⟨gl, 0, none⟩ : Addr).add k = ⟨gl, k, none⟩ by rw [Addr.add_mid, Nat.zero_add], HG1.out] at d1; clear hS; go_simp; exact hK))
      refine wpSt_keep (fun K hK => ?_)
      go_wp2_with (first
        | (go_at_call 56; ((with_reducible refine (hC.out w8).mono ?_); rintro e w9 ⟨rfl, hB9⟩)))
      have hO9 := hO8.below hB9 hO8.lt
      have hBx := hB8.trans (hB9.mono hB8.size)
      clear hO8 hB8 hB9
      refine hK _ _ ⟨hO9, hBx⟩ rfl ?_
      clear hK K
      iterate 4 (apply wpSt_read; · (intro wd hS K hK; clear hS; go_simp; exact hK))
      refine wpSt_nil ?_
      go_wp2
      go_loopw [15] (fun j wr => ∃ q : Nat, q ≤ N ∧ j = .int .i64 q ∧ Own wr w2.heap.size (icells (gL p c (cgd f) (fun i _ => lp i) N k q)) 2 ∧ Below w2.heap.size w2 wr) (fun j _ => ((N : Int) - intOf j).toNat)
      case atStart => exact ⟨0, by omega, rfl, hO9, hBx⟩
      case round =>
        clear hO9 hBx
        obtain ⟨q, hq, rfl, hO, hB⟩ := hrel
        by_cases hlt2 : q < N
        · have hq1 := Lib.hid (show q < LL.length by rw [HN.out]; exact hlt2)
          have i2 : (q : Int) < (N : Int) := by omega
          have d2 := (HT.out.below hB).cell _ rfl q hq1.out
          rw [show (⟨gl, 0, none⟩ : Addr).add q = ⟨gl, q, none⟩ by rw [Addr.add_mid, Nat.zero_add]] at d2
          have hE3 := hE2.out q hlt2
          obtain ⟨sB, hsB⟩ : ∃ s, LL.getD q ByteArray.empty = s := ⟨_, rfl⟩
          rw [hsB] at d2 hE3
          have hst := gL_step p c (cgd f) (fun i _ => lp i) N k q hlt2
          have hsk := gL_skip p c (cgd f) (fun i _ => lp i) N k q
          have hgv := hgvk.out q
          have hgl := gL_len p c (cgd f) (fun i _ => lp i) N k q
          obtain ⟨b, hb⟩ : ∃ b, cgd f k q = b := ⟨_, rfl⟩
          rw [hb] at hE3 hsk hgv
          obtain ⟨Lq, hLq⟩ : ∃ L, gL p c (cgd f) (fun i _ => lp i) N k q = L := ⟨_, rfl⟩
          rw [hLq] at hst hsk hO hgl
          clear hsB hb hLq
          cases b with
          | true =>
            have hs := hE3.2 rfl
            subst hs
            rw [if_pos rfl] at hgv
            obtain ⟨x, hx⟩ : ∃ x, pw p c t = x := ⟨_, rfl⟩
            rw [hx] at hpk hgv
            rw [hgv] at hst
            have c3 := hO.cell q
            rw [icells_get _ _ (by rw [hgl]; exact hlt2)] at c3
            have f3 := hO.free q
            have hO2 := hO.set q (.int .i64 x)
            rw [icells_set, ← hst] at hO2
            have K1 := Lib.hid hO2
            have K3 := Lib.hid (hB.setCell (p := ⟨w2.heap.size, q, none⟩) (Nat.le_refl _) (.int .i64 x))
            clear hO hO2 hB hst hsk hgv hx hE3
            go_wp2_with (first
              | (go_at_call 45; ((with_reducible refine (hpk.out _).mono ?_); rintro e w4 ⟨rfl, rfl⟩)))
            go_roundw
            case rel => exact ⟨q + 1, by omega, by go_num, K1.out, K3.out⟩
            case measure => simp [intOf]; omega
          | false =>
            have hs : ¬ sB = sO := fun h => by have := hE3.1 h; cases this
            have hs2' := bytes_ne hs
            clear hs
            rw [← hsk rfl] at hO
            have K1 := Lib.hid hO
            clear hO hst hsk hgv hE3
            go_wp2
            go_roundw
            case rel => exact ⟨q + 1, by omega, by go_num, K1.out, hB⟩
            case measure => simp [intOf]; omega
        · have e : N = q := by omega
          subst e
          have HI := Lib.hid (by have := ints_of (B := w2.heap.size) (Nat.le_refl _) hO (by rw [gL_len]; omega); rwa [gL_len] at this)
          have hsB := hB.size
          have hgl : w2.heap.size < wr.heap.size := hO.lt
          have HBI := Lib.hid hB
          have hRc := Lib.hid ((HR.out.below hB).of_same (w' := wr.alloc (.cells #[.slice (some ⟨w2.heap.size, 0, none⟩) N N] 48)) (fun j _ hj => Below.heap_alloc _ _ _ hj))
          clear hO hB
          go_wp2_with (first
            | (refine wpList_append_rws rfl (.tmp 58) (.tmp 60) rfl w1.heap.size _ vs (some ⟨w2.heap.size, 0, none⟩) N N rfl hRc.out ⟨wr.heap.size, 0, none⟩ 1 rfl ((Own.new _ _ _).cell 0) (by omega) (by simp; omega) ?_; intro v4 w4 hR4 hG4))
          go_roundw
          case rel =>
            have hty := hRc.out.own_ty
            have keep : ∀ gg cc xs, Ints (wr.alloc (.cells #[.slice (some ⟨w2.heap.size, 0, none⟩) N N] 48)) w1.heap.size gg cc xs → Ints w4 w1.heap.size gg cc xs := fun gg cc xs h => by
              obtain ⟨a1, a2, a3, cur, a4, a5, a6⟩ := h
              refine ⟨a1, a2, a3, cur, (hG4.block gg a4.lt (fun e => ?_)).trans a4, a5, a6⟩
              obtain ⟨_, cs, hc⟩ := hty gg e.symm
              exact Own.neTy a4 hc (by decide) rfl
            have hI5 := (HI.out.rebase hs2).alloc (.cells #[.slice (some ⟨w2.heap.size, 0, none⟩) N N] 48)
            refine ⟨k + 1, vs ++ [.slice (some ⟨w2.heap.size, 0, none⟩) N N], by omega, by go_num, by simp [hvs], hR4, fun i hi => ?_, HDs.out.snoc _ N N w2.heap.size (Nat.le_refl _) HLt.out, ?_⟩
            · by_cases ei : i = k
              · subst ei
                exact ⟨w2.heap.size, N, by rw [List.getElem?_append_right (by omega)]; simp [hvs], keep _ _ _ hI5⟩
              · obtain ⟨ga, ca, ga1, ga2⟩ := (HRT.out.below HBI.out) i (by omega)
                exact ⟨ga, ca, by rw [List.getElem?_append_left (by omega)]; exact ga1, keep _ _ _ (ga2.alloc _)⟩
            · exact (((HB.out.trans (HBI.out.mono hs2)).alloc (by omega) _)).grown hG4 (by simp; omega) (fun r e => (hty r (by first | exact e | exact e.symm)).1)
          case measure => simp [intOf]; omega
    · have e : N = k := by omega
      subst e
      go_wp2
      go_ret
      exact ⟨_, vs, rfl, hR.base (by omega), hvs, hRT.base (by omega), hDs, hBx.out.trans (hB.mono (by omega))⟩
end Go.Proofs.YtopenojociafaaaDoor
namespace Go.Proofs.YtopenojociafaaaDoor
open Go.RowKit
set_option linter.unusedVariables false
set_option linter.unusedSimpArgs false
set_option maxRecDepth 100000 in
set_option maxHeartbeats 2000000 in
/-- The place of a text in a list that has none twice. -/
theorem idxS_any (LL : List ByteArray) (N : Nat) (hLL : LL.length = N) (hN : N ≤ 200) (s : ByteArray) (r : Nat) (hr : r < N) (hmin0 : ∀ k, k < r → s ≠ LL.getD k ByteArray.empty) (hf0 : s = LL.getD r ByteArray.empty) (ad : Addr) (cap : Nat) (w : World) (hR0 : SRd w (some ad) LL) :
    Calls Tryd.prog 36 #[.slice (some ad) N cap, .string s] w fun e w' => e = .returned (.int .i64 r) ∧ w = w' := by
  have hR := Lib.hid hR0
  have hmin := Lib.hid hmin0
  have hf := Lib.hid hf0
  have hl := Lib.hid hLL
  clear hR0 hmin0 hf0 hLL
  go_enter Tryd.func36, Tryd.ntmps36
  go_wp2
  go_loopw [8] (fun i wr => ∃ k : Nat, k ≤ r ∧ i = .int .i64 k ∧ wr = w) (fun i _ => ((N : Int) - intOf i).toNat)
  case atStart => exact ⟨0, by omega, rfl, rfl⟩
  case round =>
    obtain ⟨k, hk, rfl, rfl⟩ := hrel
    have kI : (k : Int) < (N : Int) := by omega
    have d1 := hR.out.cell ad rfl k (by rw [hl.out]; omega)
    by_cases e : k = r
    · subst e
      rw [← hf.out] at d1
      go_wp2
      go_ret
      exact ⟨rfl, rfl⟩
    · have hne := hmin.out k (by omega)
      obtain ⟨y, hy⟩ : ∃ y, LL.getD k ByteArray.empty = y := ⟨_, rfl⟩
      rw [hy] at d1 hne
      have hne2 := bytes_ne hne
      clear hy hne
      go_wp2
      go_roundw
      case rel => exact ⟨k + 1, by omega, by go_num, trivial⟩
      case measure => simp [intOf]; omega
theorem gA_none (p c : Int) (gd : Nat → Nat → Bool) (lp : Nat → Nat → Nat) (M k : Nat) (hk : k < M) (h : ∀ j, j < M → gd k j = false) : gA p c gd lp M ((k + 1) * M + 0) = gA p c gd lp M (k * M + 0) := by
  have : ∀ q, q ≤ M → gA p c gd lp M (k * M + q) = gA p c gd lp M (k * M + 0) := by
    intro q
    induction q with
    | zero => intro _; rfl
    | succ q ih => intro hq; rw [gA_skip _ _ _ _ _ _ _ hk (by omega) (h q (by omega)), ih (by omega)]
  rw [Nat.succ_mul, Nat.add_zero]
  exact this M (Nat.le_refl _)
theorem gA_one (p c : Int) (gd : Nat → Nat → Bool) (lp : Nat → Nat → Nat) (M k r : Nat) (hk : k < M) (hr : r < M) (h1 : gd k r = true) (h : ∀ j, j < M → j ≠ r → gd k j = false) : gA p c gd lp M ((k + 1) * M + 0) = (gA p c gd lp M (k * M + 0)).set (k * M + r) (pw p c (lp k r)) := by
  have : ∀ q, q ≤ M → gA p c gd lp M (k * M + q) = if r < q then (gA p c gd lp M (k * M + 0)).set (k * M + r) (pw p c (lp k r)) else gA p c gd lp M (k * M + 0) := by
    intro q
    induction q with
    | zero => intro _; rw [if_neg (by omega)]
    | succ q ih =>
      intro hq
      by_cases e : q = r
      · subst e
        rw [gA_step _ _ _ _ _ _ _ hk hr, ih (by omega), if_neg (by omega), if_pos (by omega), gV, h1]
        rfl
      · rw [gA_skip _ _ _ _ _ _ _ hk (by omega) (h q (by omega) e), ih (by omega)]
        by_cases e2 : r < q
        · rw [if_pos e2, if_pos (by omega)]
        · rw [if_neg e2, if_neg (by omega)]
  rw [Nat.succ_mul, Nat.add_zero]
  rw [this M (Nat.le_refl _), if_pos hr]
set_option maxRecDepth 100000 in
set_option maxHeartbeats 4000000 in
theorem cellI_any (p c : Int) (hp : primeB p = true) (c0 : 0 ≤ c) (c1 : c < p) (n k : Nat) (h1 : 1 ≤ n) (h6 : n ≤ 6) (hk : k ≤ n) (he : (n - k) % 2 = 0) (ms : List Int) (hms : ms.length = 16) (M : Nat) (hM : (allH n k).length = M) (m1 : 1 ≤ M) (m2 : M ≤ 200) (f : Nat → Option Nat) (hf0 : ∀ i, i < M → ∀ j, f i = some j → j < M) (lp : Nat → Nat) (hlp0 : ∀ i, i < M → lp i ≤ 1000)
    (hnd0 : (bsl (allH n k)).Nodup) (hne0 : ∀ x ∈ bsl (allH n k), x ≠ ⟨#[]⟩)
    (w : World) (hD0 : ∀ w1, Calls Tryd.prog 34 #[.agg (dcells n ms)] w1 fun e w2 => e = .returned (.bool true) ∧ Below w1.heap.size w1 w2)
    (hP0 : ∀ i, i < M → ∀ w1, Below w.heap.size w w1 → Calls Tryd.prog 35 #[.agg (dcells n ms), .string ((bsl (allH n k)).getD i ByteArray.empty)] w1 fun e w' => e = .returned (.tuple #[.string (acT (bsl (allH n k)) (f i)), .int .i64 (lp i : Nat)]) ∧ Below w1.heap.size w1 w') :
    Calls Tryd.prog 14 #[.int .i64 p, .int .i64 c, .agg (dcells n ms), .int .i64 k] w fun e w' => ∃ g1 g2, e = .returned (.tuple #[.slice (some ⟨g2, 0, none⟩) M M, .int .i64 0]) ∧ w.heap.size ≤ g1 ∧ w.heap.size ≤ g2 ∧ Tbd w' g1 g2 M M ((List.range M).map (fun i => i * M)) ((List.range M).map (fun i => gL p c (cgd f) (fun i _ => lp i) M i M)) ∧ Below w.heap.size w w' := by
  obtain ⟨p2, p97⟩ := primeB_two hp
  have hl := Lib.hid hms
  have hmd := Lib.hid (fun w => (modI_any p c w).mono fun e w' h => (show e = .returned (.bool true) ∧ w = w' from ⟨by rw [h.1, hp, show decide (0 ≤ c ∧ c < p) = true by simp; omega]; rfl, h.2.symm⟩))
  have hC := Lib.hid (fun w => cellI_t n k w ⟨⟨by omega, by omega⟩, by omega, by omega, by omega⟩)
  have hS := Lib.hid (fun w => seaI_any (n : Int) k w)
  have hlen := allH_small n k h1 (by omega) hk he
  have n6 : ¬ (6 : Int) < (n : Int) := by omega
  have hD := Lib.hid hD0
  have hnt := Lib.hid (fun w => nwt_ok M m1 m2 w)
  have hP := Lib.hid hP0
  have hlp := Lib.hid hlp0
  have hff := Lib.hid hf0
  have hnd := Lib.hid hnd0
  have hne' := Lib.hid hne0
  have HM := Lib.hid hM
  have hpw := Lib.hid (fun (k : Nat) w1 (hk : k ≤ 1000) => (powI_any p c k w1 p2 p97 c0 c1 hk).mono fun e w' h => (show e = .returned (.int .i64 (pw p c k)) ∧ w1 = w' from ⟨h.1, h.2⟩))
  have HK := Lib.hid (show (k ≤ n ∧ (n - k) % 2 = 0) from ⟨hk, he⟩)
  clear he hk hP0 hlp0 hM hp hf0 hnd0 hne0 hD0 hms
  go_enter Tryd.func14, Tryd.ntmps14
  go_upto_region 5 with (first
    | (refine wpList_load_row rfl 32 _ rfl _ rfl 32 _ (0, 0) _ (Own.new _ _ _) Tryd.underlying32 rfl (row26 (d17 _ _ (hl.out))) ?_)
    | (go_at_call 34; ((with_reducible refine (hD.out _).mono ?_); rintro e w1 ⟨rfl, hB0⟩; have R1 : Own w1 w.heap.size (dcells n ms) 32 := (Own.new w _ _).below hB0 (by simp); have hBa : Below w.heap.size w w1 := ((Below.refl _ w).alloc (Nat.le_refl _) _).trans (hB0.mono (by simp)); have k1 := R1.cell 0; rw [dcells_zero] at k1))
    | (go_at_call 21; ((with_reducible refine (hmd.out _).mono ?_); rintro e w0 ⟨rfl, rfl⟩))
    | (go_at_call 22; ((with_reducible refine (hC.out _).mono ?_); rintro e w0 ⟨rfl, rfl⟩)))
  have b0 : Below w1.heap.size w1 ((w1.alloc (.cells #[.int .i64 (n : Int)] 2)).alloc (.cells #[.int .i64 (k : Int)] 2)) := ((Below.refl _ _).alloc (Nat.le_refl _) _).alloc (by simp) _
  have hA0 := (col_ok n k (by omega) (by have := HK.out; omega) hlen ((w1.alloc (.cells #[.int .i64 (n : Int)] 2)).alloc (.cells #[.int .i64 (k : Int)] 2)) w1.heap.size (w1.heap.size + 1) (by simp; omega) (by simp)
    (((Own.new w1 _ _).alloc _).cell 0) ((Own.at (w1.alloc (.cells #[.int .i64 (n : Int)] 2)) _ _ (by simp)).cell 0))
  have hA := Lib.hid (hA0.mono fun e w' h => (show ∃ ad cap, e = .returned (.slice (some ad) M cap) ∧ TMn w' w1.heap.size (some ad) (bsl (allH n k)) ∧ Below w1.heap.size w1 w' from by
    obtain ⟨⟨v, rfl, hC2⟩, hB⟩ := h
    obtain ⟨p0, cap, rfl, hT⟩ := (hC2.base b0.size).tmn
    cases p0 with
    | none =>
      exfalso
      have := hT.rd.nil rfl
      have h2 := congrArg List.length this
      rw [bsl_len, HM.out] at h2
      simp at h2
      omega
    | some ad => exact ⟨ad, cap, by rw [← HM.out, ← bsl_len], hT, b0.trans (hB.mono b0.size)⟩))
  clear hA0
  have hw0 : w.heap.size < w1.heap.size := R1.lt
  have hsa := hBa.size
  go_wp2_with (first
    | (go_at_call 24; ((with_reducible refine (hS.out _).mono ?_); rintro e w9 ⟨rfl, rfl⟩))
    | (go_at_call 23; ((with_reducible refine (hA.out).mono ?_); rintro e w2 ⟨ad, cap, rfl, hT, hB2⟩))
    | (go_at_call 25; ((with_reducible refine (hnt.out _).mono ?_); rintro e w3 ⟨cs, rfl, hO1, hO2, hRo, hB3⟩)))
  have hs2 := hB2.size
  have HT0 := Lib.hid (fun x (hb : Below w2.heap.size w2 x) => hT.rd.below hb)
  have HB2 := Lib.hid (hBa.trans (hB2.mono hsa))
  have HR := Lib.hid hRo
  have HD2 := R1.below hB2 R1.lt
  have HDx := Lib.hid (fun x (hb : Below w2.heap.size w2 x) => HD2.below hb HD2.lt)
  obtain ⟨g1, hg1⟩ : ∃ g, w2.heap.size = g := ⟨_, rfl⟩
  rw [hg1] at hs2 hO1 hO2 hRo HR HT0 hB3 HDx ⊢
  have hs3 := hB3.size
  have hne : g1 ≠ g1 + 1 := by omega
  have hK0 : Own w3 g1 (icells (gA p c (cgd f) (fun i _ => lp i) M (0 * M + 0))) 2 := by rw [Nat.zero_mul, Nat.add_zero, gA_zero]; exact hO1
  obtain ⟨LL, hLL⟩ : ∃ L, bsl (allH n k) = L := ⟨_, rfl⟩
  have hll : LL.length = M := by rw [← hLL, bsl_len, HM.out]
  rw [hLL] at hP HT0 hnd hne'
  have HLL := Lib.hid hll
  clear hT hB2 hRo hO1 hmd hC hS hA hnt HM hll hLL b0 hlen HD2 R1 k1 hBa hB0 HK
  go_loopw [47] (fun iv wr => ∃ i : Nat, i ≤ M ∧ iv = .int .i64 i ∧ Own wr g1 (icells (gA p c (cgd f) (fun i _ => lp i) M (i * M + 0))) 2 ∧ Own wr (g1 + 1) cs 48 ∧ Below g1 w2 wr) (fun iv _ => ((M : Int) - intOf iv).toNat)
  case atStart => exact ⟨0, Nat.zero_le _, rfl, hK0, hO2, hB3⟩
  case round =>
    clear hK0 hO2 hB3
    obtain ⟨i, hi, rfl, hO, hH, hB⟩ := hrel
    have hT := HT0.out _ hB
    by_cases hlt : i < M
    · have kI : (i : Int) < (M : Int) := by omega
      have c2 := hT.cell ad rfl i (by rw [HLL.out]; exact hlt)
      obtain ⟨sA, hsA⟩ : ∃ s, LL.getD i ByteArray.empty = s := ⟨_, rfl⟩
      rw [hsA] at c2
      have hC := Lib.hid (hP.out i hlt wr (HB2.out.trans (hB.mono (by omega))))
      rw [hsA] at hC
      have hck := Lib.hid (HR.out.2 i hlt)
      have hrm := Lib.hid (row_room hlt)
      have hpk := Lib.hid (fun w => hpw.out (lp i) w (hlp.out i hlt))
      have hfi := Lib.hid (hff.out i hlt)
      have hno := Lib.hid (fun h => gA_none p c (cgd f) (fun i _ => lp i) M i hlt h)
      have hon := Lib.hid (fun r hr h => gA_one p c (cgd f) (fun i _ => lp i) M i r hlt hr h)
      obtain ⟨t, ht⟩ : ∃ t, lp i = t := ⟨_, rfl⟩
      rw [ht] at hC hpk
      have hcg : ∀ j, cgd f i j = decide (f i = some j) := fun j => rfl
      obtain ⟨qf, hqf⟩ : ∃ q, f i = q := ⟨_, rfl⟩
      rw [hqf] at hC hfi hcg
      have HDw := Lib.hid (HDx.out wr hB)
      obtain ⟨P, hPP⟩ : ∃ P, i * M = P := ⟨_, rfl⟩
      have HPP := Lib.hid hPP
      clear hsA hqf
      cases qf with
      | none =>
        have hst := Lib.hid (hno.out (fun j _ => by rw [hcg]; simp))
        clear hno hon hcg ht hPP
        have HO := Lib.hid (fun x hb => hO.below (w' := x) hb hO.lt)
        have HH := Lib.hid (fun x hb => hH.below (w' := x) hb hH.lt)
        have HB := Lib.hid (fun x (hb : Below wr.heap.size wr x) => hB.trans (hb.mono (show g1 ≤ wr.heap.size by have := hB.size; omega)))
        clear hO hH hB hT
        simp only [acT] at hC
        go_wp2_with (first
          | (refine wpList_load_row rfl 32 _ rfl _ rfl 32 _ (0, 0) _ (HDw.out) Tryd.underlying32 rfl (row26 (d17 _ _ (hl.out))) ?_)
          | (go_at_call 35; ((with_reducible refine (hC.out).mono ?_); rintro e w9 ⟨rfl, hB9⟩)))
        go_roundw
        case rel => exact ⟨i + 1, by omega, by go_num, by rw [hst.out]; exact HO.out _ hB9, HH.out _ hB9, HB.out _ hB9⟩
        case measure => simp [intOf]; omega
      | some r =>
        have hr := hfi.out r rfl
        have hst := hon.out r hr (by rw [hcg]; simp) (fun j _ hj => by rw [hcg]; simp; exact fun h => hj h.symm)
        have hgl : P + r < (gA p c (cgd f) (fun i _ => lp i) M (i * M + 0)).length := by rw [gA_len, ← hPP]; have := hrm.out; omega
        have hix := Lib.hid (fun w hR => idxS_any LL M HLL.out m2 (LL.getD r ByteArray.empty) r hr (fun k hk h => by
          rw [List.getD_eq_getElem?_getD, List.getD_eq_getElem?_getD, List.getElem?_eq_getElem (by rw [HLL.out]; exact hr), List.getElem?_eq_getElem (by rw [HLL.out]; omega)] at h
          simp only [Option.getD_some] at h
          have := (List.getElem_inj hnd.out).1 h
          omega) rfl ad cap w hR)
        have hre : LL.getD r ByteArray.empty ≠ ⟨#[]⟩ := hne'.out _ (by
          rw [List.getD_eq_getElem?_getD, List.getElem?_eq_getElem (by rw [HLL.out]; exact hr)]
          exact List.getElem_mem _)
        simp only [acT] at hC
        obtain ⟨sR, hsR⟩ : ∃ s, LL.getD r ByteArray.empty = s := ⟨_, rfl⟩
        rw [hsR] at hC hix hre
        rw [hPP] at hst
        obtain ⟨x, hx⟩ : ∃ x, pw p c t = x := ⟨_, rfl⟩
        rw [ht, hx] at hst
        rw [hx] at hpk
        rw [hPP] at hO hgl hck
        obtain ⟨Lq, hLq⟩ : ∃ L, gA p c (cgd f) (fun i _ => lp i) M (P + 0) = L := ⟨_, rfl⟩
        rw [hLq] at hst hO hgl
        have Hst := Lib.hid hst
        clear hno hon hcg ht hPP hx hsR hLq hfi hst
        have HO := Lib.hid (fun x hb => hO.below (w' := x) hb hO.lt)
        have HH := Lib.hid (fun x hb => hH.below (w' := x) hb hH.lt)
        have HB := Lib.hid (fun x (hb : Below wr.heap.size wr x) => hB.trans (hb.mono (show g1 ≤ wr.heap.size by have := hB.size; omega)))
        clear hO hH hB hT
        have hre2 : sR.toList.isEmpty = false := by
          cases h : sR.toList.isEmpty with
          | false => rfl
          | true =>
            rw [List.isEmpty_iff, ByteArray.toList_eq] at h
            exact absurd (ByteArray.ext (Array.toList_inj.1 (h.trans (by rfl)))) hre
        clear hre
        go_upto_region 12 with (first
          | (refine wpList_load_row rfl 32 _ rfl _ rfl 32 _ (0, 0) _ (HDw.out) Tryd.underlying32 rfl (row26 (d17 _ _ (hl.out))) ?_)
          | (go_at_call 35; ((with_reducible refine (hC.out).mono ?_); rintro e w9 ⟨rfl, hB9⟩)))
        have hO := HO.out w9 hB9
        have hH := HH.out w9 hB9
        have hB := HB.out w9 hB9
        clear HO HH HB hB9 c2 hC
        refine wp_region_st (fun x => Own x (g1 + 1) cs 48 ∧ Own x g1 (icells Lq) 2 ∧ Below g1 w2 x) [(true, 0), (true, 1), (true, 2), (true, 3), (true, 4), (true, 5), (true, 7), (true, 8), (true, 9), (false, 6), (false, 10), (true, 11)] 12 (by kernel_rfl) (by kernel_rfl) ⟨hH.drewN 1, hO.drewN 1, hB.drew⟩ ?_
        simp only [List.map_cons, List.map_nil, opS'_mk, opN_zero, opN_succ, List.drop_succ_cons, List.drop_zero]
        have hO8 := hO.drewN 1
        have hH8 := hH.drewN 1
        have hB8 := hB.drew
        change Below _ _ { w9 with drawn := w9.drawn + 1 } at hB8
        change Own { w9 with drawn := w9.drawn + 1 } _ _ _ at hO8
        change Own { w9 with drawn := w9.drawn + 1 } _ _ _ at hH8
        clear hO hB hH
        generalize ({ w9 with drawn := w9.drawn + 1 } : World) = w8 at *
        iterate 9 (apply wpSt_read; · (intro wd hS K hK; have d1 := (hS.1.cell i).trans hck.out; clear hS; go_simp; exact hK))
        refine wpSt_keep (fun K hK => ?_)
        go_wp2_with (first
          | (go_at_call 36; ((with_reducible refine (hix.out _ (HT0.out _ hB8)).mono ?_); rintro e w7 ⟨rfl, rfl⟩)))
        refine hK _ _ ⟨hH8, hO8, hB8⟩ rfl ?_
        clear hK K
        refine wpSt_keep (fun K hK => ?_)
        go_wp2_with (first
          | (go_at_call 27; ((with_reducible refine (hpk.out _).mono ?_); rintro e w7 ⟨rfl, rfl⟩)))
        refine hK _ _ ⟨hH8, hO8, hB8⟩ rfl ?_
        clear hK K
        have rI : (r : Int) < (M : Int) := by omega
        (apply wpSt_read; · (intro wd hS K hK; clear hS; go_simp; exact hK))
        refine wpSt_nil ?_
        have c3 := hO8.cell (P + r)
        rw [icells_get _ _ hgl] at c3
        have f3 := hO8.free (P + r)
        have hO2 := hO8.set (P + r) (.int .i64 x)
        rw [icells_set, ← Hst.out] at hO2
        have K1 := Lib.hid hO2
        have K2 := Lib.hid (hH8.other (a := ⟨g1, P + r, none⟩) (by show g1 ≠ g1 + 1; omega) (.int .i64 x))
        have K3 := Lib.hid (hB8.setCell (p := ⟨g1, P + r, none⟩) (Nat.le_refl g1) (.int .i64 x))
        clear hO8 hH8 hO2
        go_wp2
        go_roundw
        case rel => exact ⟨i + 1, by omega, by go_num, K1.out, K2.out, K3.out⟩
        case measure => simp [intOf]; omega
    · have e : M = i := by omega
      subst e
      have hgl := gL_len p c (cgd f) (fun i _ => lp i) M
      have hT2 : Tbd wr g1 (g1 + 1) M M ((List.range M).map (fun i => i * M)) ((List.range M).map (fun i => gL p c (cgd f) (fun i _ => lp i) M i M)) := by
        have hrow : ∀ i, i < M → rw' ((List.range M).map (fun i => gL p c (cgd f) (fun i _ => lp i) M i M)) i = gL p c (cgd f) (fun i _ => lp i) M i M := fun i hi => by simp [rw', List.getD_eq_getElem?_getD, hi]
        rw [Nat.add_zero] at hO
        refine ⟨hne, _, hO, by rw [← rof_hdr HR.out]; exact hH, by simp, by simp, fun i hi => by rw [hrow i hi]; exact hgl i M, fun i hi => ?_, fun i j hi hj hij => ?_, fun i j hi hj => ?_⟩
        · rw [rng_get _ _ hi, gA_len]; exact row_room hi
        · rw [rng_get _ _ hi, rng_get _ _ hj]; exact row_apart hij
        · rw [rng_get _ _ hi, gA_end _ _ _ _ _ _ _ hi hj, hrow i hi, gL_get _ _ _ _ _ _ _ _ hj, if_pos hj]
      have HTT := Lib.hid hT2
      have HBB := Lib.hid (HB2.out.trans (hB.mono (by omega)))
      clear hT2 hO hH hB hT
      go_wp2
      go_ret2
      exact ⟨g1, g1 + 1, rfl, by omega, by omega, HTT.out, HBB.out⟩
end Go.Proofs.YtopenojociafaaaDoor
