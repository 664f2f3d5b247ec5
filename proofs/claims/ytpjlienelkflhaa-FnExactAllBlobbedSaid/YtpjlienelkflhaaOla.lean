/- OpenLines: the model's loop, the program's answer, and the law. -/
import Derived.Test.YtpjlienelkflhaaOps
import Derived.Test.YtpjlienelkflhaaLawD
import Derived.Test.YtpjlienelkflhaaMark
import Derived.Test.YtpjlienelkflhaaOpen
namespace Go.Proofs.Ytpjlienelkflhaa
open Go.RowKit
set_option linter.unusedVariables false
set_option linter.unusedSimpArgs false
/-- The model's question at a place asks whether nothing is open there. -/
theorem open_iff {n : Int} {ms : List Int} (h : Net n ms) (k : Nat) (hk : (k : Int) < 2 * n) :
    ((opB n ms (2 * n).toNat).getD (pl n k).toNat false = true ∧ (k : Int) < qq n ms k) ↔ opens n ms k = [] := by
  have h8 := h.bd.2
  have pk := pl_bd n k h8 (by omega) hk
  rw [opB_get _ _ _ _ (by omega)]
  constructor
  · rintro ⟨⟨s, hs, hp⟩, hq⟩
    rw [mem_starts] at hs
    have ps := pl_bd n s h8 (by omega) (by omega)
    have su := start_up h s (by omega) hs.2
    have q0 := h.lt s (by omega) (by omega)
    rcases hp with hp | hp
    · have e : pl n k = pl n s := by omega
      have := congrArg (pl n) e
      rw [pl_pl n k (by omega) hk, pl_pl n s (by omega) (by omega)] at this
      have : k = s := by omega
      subst this; exact hs.2
    · rw [h.mt s (by omega) (by omega)] at hp
      have p2 := pl_bd n (qq n ms s) h8 q0.1 q0.2.1
      have e : pl n k = pl n (qq n ms s) := by omega
      have := congrArg (pl n) e
      rw [pl_pl n k (by omega) hk, pl_pl n _ q0.1 q0.2.1] at this
      have i := h.inv s (by omega) (by omega)
      rw [← this] at i
      omega
  · intro ho
    exact ⟨⟨k, mem_starts.2 ⟨by omega, ho⟩, .inl rfl⟩, start_up h k hk ho⟩
theorem opl_len (n : Int) (ms : List Int) (k : Nat) : ((starts n ms k).map (fun s : Nat => pl n (s : Int))).length ≤ k := by
  rw [List.length_map]
  exact Nat.le_trans (List.length_filter_le _ _) (by simp)
set_option maxRecDepth 100000 in
set_option maxHeartbeats 4000000 in
theorem olS_ok (n : Int) (ms : List Int) (hms : ms.length = 16) (hb : Bytes ms) (hd : isD n ms = true) (w : World) :
    Calls Try.prog 39 #[.agg (dcells n ms)] w (ResI (opl n ms) 0 w) := by
  have hn := net_of n ms hms hb hd
  obtain ⟨h1, h8⟩ := hn.bd
  have hl := Lib.hid hms
  have hbb := Lib.hid hb
  have hc := Lib.hid (fun w => l01Is_dec n ms hms hb w)
  have hop := Lib.hid (fun w => opS_any n ms hms hb hn w)
  rw [hd] at hc
  have HN := Lib.hid hn
  have hoi := Lib.hid (fun (k : Nat) (hk : (k : Int) < 2 * n) => open_iff hn k hk)
  obtain ⟨N, hN⟩ : ∃ N, (2 * n).toNat = N := ⟨_, rfl⟩
  rw [hN] at hop hoi
  have hres := Lib.hid (show opl n ms = (starts n ms N).map (fun s : Nat => pl n (s : Int)) by unfold opl; rw [hN])
  have hOL := Lib.hid (opB_len n ms N)
  obtain ⟨ob, hob⟩ : ∃ ob, opB n ms N = ob := ⟨_, rfl⟩
  rw [hob] at hop hoi hOL
  have hN2 : (N : Int) = 2 * n := by omega
  have hmk := mk0i
  clear hms hb hd hn hN hob
  go_enter Try.func39, Try.ntmps39
  go_wp2_with (first
    | (refine wpList_load_row rfl 30 _ rfl _ rfl 30 _ (0, 0) _ (hO1) Try.underlying30 rfl (row26 (d17 _ _ (hl.out))) ?_)
    | (refine wpList_load_row rfl 30 _ rfl _ rfl 30 _ (0, 0) _ (Own.new _ _ _) Try.underlying30 rfl (row26 (d17 _ _ (hl.out))) ?_)
    | ((go_at_call 33; ((with_reducible refine (hc.out _).mono ?_); rintro e w1 ⟨rfl, hB1⟩)); have hO1 : Own w1 w.heap.size (dcells n ms) 30 := (Own.new _ _ _).below hB1 (by simp))
    | ((go_at_call 52; ((with_reducible refine (hop.out _).mono ?_); rintro e w2 ⟨rfl, hB2⟩)); have hO2 := hO1.below hB2 hO1.lt)
    | (refine wpList_store_own rfl 62 _ _ rfl _ _ rfl rfl 62 _ (Own.at (w2.alloc _) _ _ (by simp)) (rowbo (o16 _ hOL.out)) (by rw [o16 _ hOL.out]; rfl) (bools_one _) ?_; intro w3 hT3 hN3))
  have b0 : Below w.heap.size w (w.alloc (.cells (dcells n ms) 30)) := (Below.refl _ _).alloc (Nat.le_refl _) _
  have b1 := b0.trans (hB1.mono b0.size)
  have b2 := b1.trans (hB2.mono b1.size)
  have hlt2 := hO2.lt
  have nB : Below w.heap.size w w3 := ((b2.alloc b2.size _).alloc (by simp; omega) _).trans (hN3.below.mono (by omega))
  have nO : Own w3 w.heap.size (dcells n ms) 30 := ((hO2.alloc _).alloc _).only hN3 (by omega)
  have nI : Ints w3 (w.heap.size + 1) w2.heap.size 0 [] := ((Ints.new w2 _ _ _ (by omega) rfl (by decide) #[] rfl).alloc _).only hN3 (by omega)
  obtain ⟨gt, hgt⟩ : ∃ gt, w2.heap.size + 1 = gt := ⟨_, rfl⟩
  rw [hgt] at hT3
  have hgb : w.heap.size < gt := by omega
  have hgn : w2.heap.size ≠ gt := by omega
  clear hmk hB1 hB2 hN3 hO1 hO2 b0 b1 b2
  simp only [hgt]
  go_loopw [5, 6] (fun v i wr => ∃ (k g cap : Nat), k ≤ N ∧ i = .int .i64 k ∧ v = .slice (some ⟨g, 0, none⟩) ((starts n ms k).map (fun s : Nat => pl n (s : Int))).length cap ∧ g ≠ gt ∧ Own wr w.heap.size (dcells n ms) 30 ∧ Own wr gt (bools ob) 62 ∧ Ints wr (w.heap.size + 1) g cap ((starts n ms k).map (fun s : Nat => pl n (s : Int))) ∧ Below w.heap.size w wr) (fun _ i _ => (N - intOf i).toNat)
  case atStart => exact ⟨0, _, _, by omega, rfl, rfl, hgn, nO, hT3, nI, nB⟩
  case round =>
    clear nO hT3 nI nB hgn hlt2 hgt
    obtain ⟨k, g, cap, hk, rfl, rfl, hne, hO, hT, hI, hB⟩ := hrel
    have k0 := hO.cell 0
    rw [dcells_zero] at k0
    have hlen := opl_len n ms k
    obtain ⟨X, hX⟩ : ∃ X, (starts n ms k).map (fun s : Nat => pl n (s : Int)) = X := ⟨_, rfl⟩
    rw [hX] at hI hlen ⊢
    by_cases hlt : (k : Int) < 2 * n
    · have pb := pl_bd n k h8 (by omega) hlt
      have q0 := HN.out.lt k (by omega) hlt
      have hst := starts_succ n ms k
      obtain ⟨p, hp⟩ : ∃ p, pl n k = p := ⟨_, rfl⟩
      obtain ⟨m, hm⟩ : ∃ m, mate ms p = m := ⟨_, rfl⟩
      have c1 := dcells_get n ms p.toNat (by rw [hl.out, ← hp]; omega)
      have hqq : qq n ms k = pl n m := by unfold qq; rw [hp, hm]
      have mb := hbb.out.get p.toNat
      have hm' := hm
      unfold mate at hm'
      rw [hm'] at c1 mb
      have hoi' := hoi.out k hlt
      rw [hp] at pb hoi'
      rw [hqq] at hoi'
      obtain ⟨pb1, pb2, pb3⟩ := pb
      obtain ⟨mb1, mb2⟩ := mb
      have hX1 := Lib.hid (show opens n ms k = [] → (starts n ms (k + 1)).map (fun s : Nat => pl n (s : Int)) = X ++ [p] by
        intro e; rw [hst, if_pos e, List.map_append, hX, ← hp]; rfl)
      have hX2 := Lib.hid (show opens n ms k ≠ [] → (starts n ms (k + 1)).map (fun s : Nat => pl n (s : Int)) = X by
        intro e; rw [hst, if_neg e, hX])
      obtain ⟨b, hbv⟩ : ∃ b, ob.getD p.toNat false = b := ⟨_, rfl⟩
      rw [hbv] at hoi'
      have HOI := Lib.hid hoi'
      have C1 := Lib.hid c1
      have hP := Lib.hid hp
      have HB := Lib.hid hbv
      clear hp hm hm' hqq c1 hst hX hoi' hbv
      go_wp2_with (first
        | (go_at_call 46; ((with_reducible refine ((placeS_any n k _ (by omega) (by omega) (by omega) (by omega)).mono (fun e w' h => (by rw [hP.out] at h; exact h : e = .returned (.int .i64 p) ∧ w' = _))).mono ?_); rintro e w0 ⟨rfl, rfl⟩)))
      clear k0
      have k1 := hO.cell (1 + p.toNat)
      rw [C1.out] at k1
      have k2 := hT.cell p.toNat
      rw [bools_get _ _ (by rw [hOL.out]; omega), HB.out] at k2
      have k0 := hO.cell 0
      rw [dcells_zero] at k0
      have hp16 : p < 16 := pb3
      have cm := Lib.hid (fun wd => placeS_any n m wd (by omega) (by omega) mb1 mb2)
      have hwr : IntKind.i64.wrap m = m := IntWalk.i64_in _ (by omega)
      have HO := Lib.hid hO
      have HT := Lib.hid hT
      have HI := Lib.hid hI
      have HBB := Lib.hid hB
      clear hO hT hI hB
      cases b with
      | false =>
        have hX3 := hX2.out (fun e => by have := HOI.out.2 e; simp at this)
        go_quiet (fail)
        go_wp2
        go_roundw
        case rel => exact ⟨k + 1, g, cap, by omega, by go_num, by rw [hX3], hne, HO.out.drewN _, HT.out.drewN _, by rw [hX3]; exact HI.out.drewN _, Below.drewN HBB.out _⟩
        case measure => simp [intOf]; omega
      | true =>
        by_cases g0 : (k : Int) < pl n m
        · have hX3 := hX1.out (HOI.out.1 ⟨rfl, g0⟩)
          go_quiet (first | (go_at_call 46; refine Calls.quiet_of_same ((cm.out _).mono (fun e w' h => ⟨h.1, h.2⟩))))
          obtain ⟨wd, hwd⟩ : ∃ x, x = w0.drewN nq := ⟨_, rfl⟩
          have hOd : Own wd w.heap.size (dcells n ms) 30 := by rw [hwd]; exact HO.out.drewN _
          have hTd : Own wd gt (bools ob) 62 := by rw [hwd]; exact HT.out.drewN _
          have hId : Ints wd (w.heap.size + 1) g cap X := by rw [hwd]; exact HI.out.drewN _
          have hBd : Below w.heap.size w wd := by rw [hwd]; exact Below.drewN HBB.out _
          rw [← hwd]
          have hsz := hBd.size
          have hol := hOd.lt
          have hgI := hId.1
          clear hwd hwr k0 k1 k2 HO HT HI HBB cm
          have hq : X.length < 100 := by omega
          go_wp2_with (first
            | (refine wpList_append_ints rfl (.tmp 40) (.tmp 42) rfl (w.heap.size + 1) g cap X p rfl (hId.alloc _) ⟨wd.heap.size, 0, none⟩ 1 rfl ((Own.new _ _ _).cell 0) (by omega) (by simp <;> omega) ?_; intro g3 cap3 w3 hI3 hG3))
          have hO3 := (hOd.alloc _).grown hG3 (by omega)
          have hT3 := (hTd.alloc _).grown hG3 (fun e => hne e.symm)
          have hB3 : Below w.heap.size w w3 := (hBd.alloc hsz _).grown hG3 (by simp; omega) (fun k e => by simp at e; omega)
          have hne3 : g3 ≠ gt := by
            intro e
            subst e
            obtain ⟨_, _, _, cu, hcu, _⟩ := hI3
            have := (show w3.heap[g3]? = _ from hcu).symm.trans hT3
            simp at this
          rw [← hX3] at hI3
          go_roundw
          case rel => exact ⟨k + 1, g3, cap3, by omega, by go_num, by rw [hX3]; rfl, hne3, hO3, hT3, hI3, hB3⟩
          case measure => simp [intOf]; omega
        · have hX3 := hX2.out (fun e => g0 (HOI.out.2 e).2)
          go_quiet (first | (go_at_call 46; refine Calls.quiet_of_same ((cm.out _).mono (fun e w' h => ⟨h.1, h.2⟩))))
          go_wp2
          go_roundw
          case rel => exact ⟨k + 1, g, cap, by omega, by go_num, by rw [hX3], hne, HO.out.drewN _, HT.out.drewN _, by rw [hX3]; exact HI.out.drewN _, Below.drewN HBB.out _⟩
          case measure => simp [intOf]; omega
    · have e : k = N := by omega
      subst e
      have hM := Lib.hid (show Mn wr w.heap.size (some ⟨g, 0, none⟩) (opl n ms) by rw [hres.out, hX]; exact Mn.ints (Nat.le_succ _) hI)
      have hle := Lib.hid (show X.length = (opl n ms).length by rw [hres.out, hX])
      clear hI hT hX hlen
      go_wp2
      go_ret2
      exact ⟨some ⟨g, 0, none⟩, cap, by rw [← hle.out]; rfl, hM.out, hB⟩
set_option maxRecDepth 100000 in
theorem olS_bad (n : Int) (ms : List Int) (hms : ms.length = 16) (hb : Bytes ms) (hd : isD n ms = false) (w : World) :
    Calls Try.prog 39 #[.agg (dcells n ms)] w (ResI [] 1 w) := by
  have hl := Lib.hid hms
  have hc := Lib.hid (fun w => l01Is_dec n ms hms hb w)
  rw [hd] at hc
  clear hms hb hd
  go_enter Try.func39, Try.ntmps39
  go_wp2_with (first
    | (refine wpList_load_row rfl 30 _ rfl _ rfl 30 _ (0, 0) _ (Own.new _ _ _) Try.underlying30 rfl (row26 (d17 _ _ (hl.out))) ?_)
    | ((go_at_call 33; ((with_reducible refine (hc.out _).mono ?_); rintro e w1 ⟨rfl, hB1⟩))))
  go_ret2
  exact ⟨none, 0, rfl, Mn.nil _ _, ((Below.refl _ _).alloc (Nat.le_refl _) _).trans (hB1.mono (by simp))⟩
end Go.Proofs.Ytpjlienelkflhaa
