/- What the document's in, ready, Vote and note do, called at a house that lies in memory. -/
import Derived.Test.YtikmnaegalmfeaaKJ17
import Derived.Test.YtikmnaegalmfeaaKHouseP
import Derived.Test.YtikmnaegalmfeaaKFresh
namespace Go.Proofs.Ytikmnaegalmfeaa
open Go.RowKit
attribute [local go_sem ↓] Go.wp_at_zero Go.wp_at_succ

set_option maxRecDepth 20000 in
set_option maxHeartbeats 1000000 in
theorem refIn_any (a : Option Addr) (l : List Int) (cap n : Nat) (d : Int) (w : World) (hn : n = l.length) (hl : l.length ≤ 9223372036854775807) (hp : RowAt 1 encI w a l) :
    Calls Try.prog 38 #[.slice a n cap, .int .i64 d] w fun e w' => e = .returned (.bool (inI l d)) ∧ Below w.heap.size w w' := by
  have HN : Hid (n = l.length ∧ RowAt 1 encI w a l) := ⟨hn, hp⟩
  have hnl : n ≤ 9223372036854775807 := by omega
  clear hn hp hl
  go_enter Try.func38, Try.ntmps38
  go_wp2
  go_loopw [9] (fun i w' => ∃ k : Nat, k ≤ n ∧ i = .int .i64 k ∧ Hid (inI (l.take k) d = false) ∧ Below w.heap.size w w') (fun i _ => n - (intOf i).toNat)
  case atStart => exact ⟨0, Nat.zero_le _, rfl, rfl, Below.refl _ _⟩
  case round =>
    obtain ⟨k, hk, rfl, hno, hbw⟩ := hrel
    by_cases hlt : k < n
    · have hkl : k < l.length := by have := HN.out.1; omega
      rcases HN.out.2.below hbw with h0 | ⟨g, o, rfl, hg, hc⟩
      · rw [h0] at hkl; simp at hkl
      have d0 := hc k hkl 0 _ rfl
      simp only [Nat.mul_one, Nat.add_zero] at d0
      have HA : Hid (l[k] = d → inI l d = true) := fun h => by
        unfold inI
        rw [List.any_eq_true]
        exact ⟨_, List.getElem_mem hkl, by simpa using h⟩
      have HB : Hid (¬ l[k] = d → inI (l.take (k + 1)) d = false) := fun h => by
        rw [take_snoc hkl, inI_snoc, hno.out, decide_eq_false h]; rfl
      clear hc hno
      generalize l[k] = x at *
      by_cases hd : x = d
      · have HF : Hid (inI l d = true) := HA.out hd
        subst hd
        clear HA HB
        go_wp2
        go_ret
        exact ⟨ret_bool HF.out.symm, hbw⟩
      · have HF : Hid (inI (l.take (k + 1)) d = false) := HB.out hd
        have hd' : (x == d) = false := by simpa using hd
        clear HA HB hd
        go_wp2
        go_roundw
        case rel => exact ⟨k + 1, by omega, by go_num, HF, hbw⟩
        case measure => simp [intOf]; omega
    · have HF : Hid (inI l d = false) := by have := hno.out; rwa [List.take_of_length_le (by have := HN.out.1; omega)] at this
      clear hno
      go_wp2
      go_ret
      exact ⟨ret_bool HF.out.symm, hbw⟩

theorem hasD_snoc (D : List D2) (x : D2) (d : Int) : hasD (D ++ [x]) d = (hasD D d || decide (x.1 = d)) := by simp [hasD]

set_option maxRecDepth 20000 in
set_option maxHeartbeats 1000000 in
theorem refReady_any (la ra da : Option Addr) (nl lc nr rc nd dc : Nat) (s0 s1 s2 s3 d : Int) (XR : List XD) (D : List D2) (w : World) (h : RdyAt w ra nr XR D) :
    Calls Try.prog 36 #[.agg #[.slice la nl lc, .int .i64 s0, .int .i64 s1, .int .i64 s2, .int .i64 s3, .slice ra nr rc, .slice da nd dc], .int .i64 d] w fun e w' => e = .returned (.bool (hasD D d)) ∧ Below w.heap.size w w' := by
  have HN : Hid (RdyAt w ra nr XR D) := h
  have hnl : nr ≤ 9223372036854775807 := by have := h.n; have := h.few; omega
  clear h
  go_enter Try.func36, Try.ntmps36
  go_wp2
  have hb0 := below1 w (.cells #[.slice la nl lc, .int .i64 s0, .int .i64 s1, .int .i64 s2, .int .i64 s3, .slice ra nr rc, .slice da nd dc] 31)
  generalize w.alloc (.cells #[.slice la nl lc, .int .i64 s0, .int .i64 s1, .int .i64 s2, .int .i64 s3, .slice ra nr rc, .slice da nd dc] 31) = W at *
  go_loopw [10] (fun i w' => ∃ k : Nat, k ≤ nr ∧ i = .int .i64 k ∧ Hid (hasD (D.take k) d = false) ∧ Below w.heap.size w w') (fun i _ => nr - (intOf i).toNat)
  case atStart => exact ⟨0, Nat.zero_le _, rfl, rfl, hb0⟩
  case round =>
    obtain ⟨k, hk, rfl, hno, hbw⟩ := hrel
    have hsz := hbw.size
    by_cases hlt : k < nr
    · have hkX : k < XR.length := by have := HN.out.n; omega
      have hkD : k < D.length := by rw [← HN.out.says, List.length_map]; exact hkX
      have hDk : D[k].1 = XR[k].1 := by
        have : D = XR.map stripD := HN.out.says.symm
        subst this
        rw [List.getElem_map]
        rfl
      obtain ⟨g, o, rfl, hg, d0, d1, hq⟩ := (HN.out.lies.below hbw).get hkX
      have HA : Hid (XR[k].1 = d → hasD D d = true) := fun h => by
        unfold hasD
        rw [List.any_eq_true]
        exact ⟨_, List.getElem_mem hkD, by rw [hDk]; simpa using h⟩
      have HB : Hid (¬ XR[k].1 = d → hasD (D.take (k + 1)) d = false) := fun h => by
        rw [take_snoc hkD, hasD_snoc, hno.out, hDk, decide_eq_false h]; rfl
      clear hno hDk hkD hq
      generalize XR[k] = x at *
      obtain ⟨dd, ⟨ax, cx⟩, l⟩ := x
      simp only at d0 d1 HA HB
      generalize l.length = n2 at *
      have hBn : Below w.heap.size w (wr.alloc (.cells #[.int .i64 dd, .slice ax n2 cx] 69)) := hbw.trans ((below1 wr _).mono hsz)
      by_cases hd : dd = d
      · have HF : Hid (hasD D d = true) := HA.out hd
        subst hd
        clear HA HB
        go_wp2
        go_ret
        exact ⟨ret_bool HF.out.symm, hBn⟩
      · have HF : Hid (hasD (D.take (k + 1)) d = false) := HB.out hd
        have hd' : (dd == d) = false := by simpa using hd
        clear HA HB hd
        go_wp2
        go_roundw
        case rel => exact ⟨k + 1, by omega, by go_num, HF, hBn⟩
        case measure => simp [intOf]; omega
    · have HF : Hid (hasD D d = false) := by
        have := hno.out
        rwa [List.take_of_length_le (by have h1 := HN.out.n; have h2 := congrArg List.length HN.out.says; simp at h2; omega)] at this
      clear hno
      go_wp2
      go_ret
      exact ⟨ret_bool HF.out.symm, hbw⟩

set_option maxRecDepth 20000 in
set_option maxHeartbeats 2000000 in
theorem refVote_any (la ra da pa : Option Addr) (nl lc nr rc nd dc np pc : Nat) (s0 s1 s2 s3 d : Int) (XR : List XD) (D : List D2) (dn : List Int) (l : List P3) (w : World) (h : RdyAt w ra nr XR D) (hnd : nd = dn.length) (hdl : dn.length ≤ 9223372036854775807) (hdn : RowAt 1 encI w da dn)
    (hnp : np = l.length) (hok : OkP l) (hq : PartsAt w pa l) (hw : Within 2199023255552 (s0, s1, s2, s3)) :
    Calls Try.prog 12 #[.agg #[.slice la nl lc, .int .i64 s0, .int .i64 s1, .int .i64 s2, .int .i64 s3, .slice ra nr rc, .slice da nd dc], .int .i64 d, .slice pa np pc] w fun e w' => e = .returned (.int .i64 (voteB ((s0, s1, s2, s3), D, dn) d l)) ∧ Below w.heap.size w w' := by
  have HN : Hid (RdyAt w ra nr XR D ∧ (nd = dn.length ∧ dn.length ≤ 9223372036854775807 ∧ RowAt 1 encI w da dn) ∧ (np = l.length ∧ OkP l ∧ PartsAt w pa l) ∧ Within 2199023255552 (s0, s1, s2, s3)) := ⟨h, ⟨hnd, hdl, hdn⟩, ⟨hnp, hok, hq⟩, hw⟩
  have hnp4 : np ≤ 4 := by have := hok.1; omega
  clear h hnd hdl hdn hnp hok hq hw
  have hb0 := below1 w (.cells #[.slice la nl lc, .int .i64 s0, .int .i64 s1, .int .i64 s2, .int .i64 s3, .slice ra nr rc, .slice da nd dc] 31)
  have hh0 : Blk (w.alloc (.cells #[.slice la nl lc, .int .i64 s0, .int .i64 s1, .int .i64 s2, .int .i64 s3, .slice ra nr rc, .slice da nd dc] 31)) w.heap.size #[.slice la nl lc, .int .i64 s0, .int .i64 s1, .int .i64 s2, .int .i64 s3, .slice ra nr rc, .slice da nd dc] 31 := Blk.new _ _ _
  go_enter Try.func12, Try.ntmps12
  go_wp2_with fail
  generalize w.alloc (.cells #[.slice la nl lc, .int .i64 s0, .int .i64 s1, .int .i64 s2, .int .i64 s3, .slice ra nr rc, .slice da nd dc] 31) = W at *
  refine (refIn_any da dn dc nd d W HN.out.2.1.1 HN.out.2.1.2.1 (HN.out.2.1.2.2.below hb0)).mono ?_
  rintro e w1 ⟨rfl, hb1⟩
  have hB1 : Below w.heap.size w w1 := hb0.trans (hb1.mono hb0.size)
  have hh1 := hh0.below hb1 hh0.lt
  clear hb1 hb0 hh0
  cases hz1 : inI dn d
  · have q0 := hh1.cell 0
    have q1 := hh1.cell 1
    have q2 := hh1.cell 2
    have q3 := hh1.cell 3
    have q4 := hh1.cell 4
    have q5 := hh1.cell 5
    have q6 := hh1.cell 6
    have hql := hh1.lt
    simp at q0 q1 q2 q3 q4 q5 q6
    have HZ1 : Hid (inI dn d = false) := hz1
    clear hz1
    go_wp2_with fail
    refine (refReady_any la ra da nl lc nr rc nd dc s0 s1 s2 s3 d XR D w1 (HN.out.1.below hB1)).mono ?_
    rintro e w2 ⟨rfl, hb2⟩
    have hB2 : Below w.heap.size w w2 := hB1.trans (hb2.mono hB1.size)
    have hh2 := hh1.below hb2 hh1.lt
    clear hb2 hh1 hB1 q0 q1 q2 q3 q4 q5 q6 hql
    cases hz2 : hasD D d
    · have HZ2 : Hid (hasD D d = false) := hz2
      clear hz2
      go_wp2
      go_loopw [18] (fun i w' => ∃ k : Nat, k ≤ np ∧ i = .int .i64 k ∧ Hid (takenB D (l.take k) = false) ∧ Below w2.heap.size w2 w') (fun i _ => np - (intOf i).toNat)
      case atStart => exact ⟨0, Nat.zero_le _, rfl, rfl, Below.refl _ _⟩
      case round =>
        obtain ⟨k, hk, rfl, hno, hbw⟩ := hrel
        have hsz := hbw.size
        have hBr : Below w.heap.size w wr := hB2.trans (hbw.mono hB2.size)
        have hhr := hh2.below hbw hh2.lt
        have q0 := hhr.cell 0
        have q1 := hhr.cell 1
        have q2 := hhr.cell 2
        have q3 := hhr.cell 3
        have q4 := hhr.cell 4
        have q5 := hhr.cell 5
        have q6 := hhr.cell 6
        have hql := hhr.lt
        simp at q0 q1 q2 q3 q4 q5 q6
        by_cases hlt : k < np
        · have hkl : k < l.length := by have := HN.out.2.2.1.1; omega
          rcases HN.out.2.2.1.2.2.below hBr with h0 | ⟨g, o, rfl, hg, hc⟩
          · rw [h0] at hkl; simp at hkl
          obtain ⟨e0, e1, e2⟩ := hc k hkl
          have HS : Hid (takenB D (l.take (k + 1)) = decide (0 ≤ whoB D l[k].2.1) ∧ (0 ≤ whoB D l[k].2.1 → takenB D l = true)) := by
            refine ⟨by rw [take_snoc hkl, takenB_snoc, hno.out]; rfl, fun h => ?_⟩
            unfold takenB
            rw [List.any_eq_true]
            exact ⟨_, List.getElem_mem hkl, by simpa using h⟩
          clear hc hno
          generalize l[k] = p at *
          obtain ⟨ph, pk, pn⟩ := p
          simp only at e0 e1 e2 HS
          have hbA := below1 wr (.cells #[.int .i64 ph, .int .i64 pk, .int .i64 pn] 45)
          have hBA : Below w.heap.size w (wr.alloc (.cells #[.int .i64 ph, .int .i64 pk, .int .i64 pn] 45)) := hBr.trans (hbA.mono hBr.size)
          have hBm : Below w2.heap.size w2 (wr.alloc (.cells #[.int .i64 ph, .int .i64 pk, .int .i64 pn] 45)) := hbw.trans (hbA.mono hsz)
          clear hhr hbw
          go_wp2_with fail
          refine (refWhoR_any la ra da nl lc nr rc nd dc s0 s1 s2 s3 pk XR D _ (HN.out.1.below hBA)).mono ?_
          rintro e w3 ⟨rfl, hb3⟩
          have hB3 : Below w2.heap.size w2 w3 := hBm.trans (hb3.mono hBm.size)
          have hB3w : Below w.heap.size w w3 := hBA.trans (hb3.mono hBA.size)
          clear q0 q1 q2 q3 q4 q5 q6 hb3 hBA hbA e0 e1 e2 hBm
          generalize whoB D pk = z at *
          by_cases hzz : 0 ≤ z
          · have HF : Hid (voteB ((s0, s1, s2, s3), D, dn) d l = 12) := by
              show _ = _
              unfold voteB
              simp only
              rw [HZ1.out, if_neg (by simp), HZ2.out, if_neg (by simp), HS.out.2 hzz, if_pos rfl]
            clear HS
            go_wp2
            go_ret
            exact ⟨ret_int HF.out.symm, hB3w⟩
          · have HF : Hid (takenB D (l.take (k + 1)) = false) := by show _ = _; rw [HS.out.1]; simpa using hzz
            clear HS
            go_wp2
            go_roundw
            case rel => exact ⟨k + 1, by omega, by go_num, HF, hB3⟩
            case measure => simp [intOf]; omega
        · have HF : Hid (voteB ((s0, s1, s2, s3), D, dn) d l = fitsB (s0, s1, s2, s3) l) := by
            show _ = _
            have := hno.out
            rw [List.take_of_length_le (by have := HN.out.2.2.1.1; omega)] at this
            unfold voteB
            simp only
            rw [HZ1.out, if_neg (by simp), HZ2.out, if_neg (by simp), this, if_neg (by simp)]
          clear hno hhr
          go_wp2_with fail
          refine (refFits_any s0 s1 s2 s3 pa l pc np wr HN.out.2.2.1.1 HN.out.2.2.1.2.1.1 (HN.out.2.2.1.2.2.below hBr) HN.out.2.2.1.2.1.2.1 HN.out.2.2.1.2.1.2.2 HN.out.2.2.2).mono ?_
          rintro e w3 ⟨rfl, hb3⟩
          have hB3w : Below w.heap.size w w3 := hBr.trans (hb3.mono hBr.size)
          clear q0 q1 q2 q3 q4 q5 q6 hb3
          go_wp2
          go_ret
          exact ⟨ret_int HF.out.symm, hB3w⟩
    · have HF : Hid (voteB ((s0, s1, s2, s3), D, dn) d l = 0) := by
        show _ = _
        unfold voteB
        simp only
        rw [HZ1.out, if_neg (by simp), hz2, if_pos rfl]
      clear hz2
      go_wp2
      go_ret
      exact ⟨ret_int HF.out.symm, hB2⟩
  · have HF : Hid (voteB ((s0, s1, s2, s3), D, dn) d l = 10) := by
      show _ = _
      unfold voteB
      simp only
      rw [hz1, if_pos rfl]
    clear hz1
    go_wp2
    go_ret
    exact ⟨ret_int HF.out.symm, hB1⟩

end Go.Proofs.Ytikmnaegalmfeaa
