/- What house.isDone, isReady and Vote do, called at a house that lies in memory. -/
import Derived.Test.YtikmnaegalmfeaaKJ19
import Derived.Test.YtikmnaegalmfeaaKHouseQ
import Derived.Test.YtikmnaegalmfeaaKPart3
import Derived.Test.YtikmnaegalmfeaaKLock2
namespace Go.Proofs.Ytikmnaegalmfeaa
open Go.RowKit
attribute [local go_sem ↓] Go.wp_at_zero Go.wp_at_succ

set_option maxRecDepth 20000 in
set_option maxHeartbeats 1000000 in
theorem indexI_any (a : Option Addr) (l : List Int) (cap n : Nat) (d : Int) (w : World) (hn : n = l.length) (hl : l.length ≤ 9223372036854775807) (hp : RowAt 1 encI w a l) :
    Calls Try.prog 92 #[.slice a n cap, .int .i64 d] w fun e w' => ∃ r : Int, e = .returned (.int .i64 r) ∧ decide (0 ≤ r) = inI l d ∧ Below w.heap.size w w' := by
  have HN : Hid (n = l.length ∧ RowAt 1 encI w a l) := ⟨hn, hp⟩
  have hnl : n ≤ 9223372036854775807 := by omega
  clear hn hp hl
  go_enter Try.func92, Try.ntmps92
  go_wp2
  go_loopw [8] (fun i w' => ∃ k : Nat, k ≤ n ∧ i = .int .i64 k ∧ Hid (inI (l.take k) d = false) ∧ Below w.heap.size w w') (fun i _ => n - (intOf i).toNat)
  case atStart => exact ⟨0, Nat.zero_le _, rfl, rfl, Below.refl _ _⟩
  case round =>
    obtain ⟨k, hk, rfl, hno, hbw⟩ := hrel
    by_cases hlt : k < n
    · have hkl : k < l.length := by have := HN.out.1; omega
      rcases HN.out.2.below hbw with h0 | ⟨g, o, rfl, hg, hc⟩
      · rw [h0] at hkl; simp at hkl
      have d0 := hc k hkl 0 _ rfl
      simp only [Nat.mul_one, Nat.add_zero] at d0
      have HA : Hid (l[k] = d → inI l d = true) := fun h => by
        unfold inI
        rw [List.any_eq_true]
        exact ⟨_, List.getElem_mem hkl, by simpa using h⟩
      have HB : Hid (¬ l[k] = d → inI (l.take (k + 1)) d = false) := fun h => by
        rw [take_snoc hkl, inI_snoc, hno.out, decide_eq_false h]; rfl
      clear hc hno
      generalize l[k] = x at *
      by_cases hd : d = x
      · have HF : Hid (decide (0 ≤ (k : Int)) = inI l d) := by show _ = _; rw [HA.out hd.symm]; simp
        subst hd
        clear HA HB
        go_wp2
        go_ret
        exact ⟨_, rfl, HF.out, hbw⟩
      · have HF : Hid (inI (l.take (k + 1)) d = false) := HB.out (fun e => hd e.symm)
        have hd' : (d == x) = false := by simpa using hd
        clear HA HB hd
        go_wp2
        go_roundw
        case rel => exact ⟨k + 1, by omega, by go_num, HF, hbw⟩
        case measure => simp [intOf]; omega
    · have HF : Hid (decide (0 ≤ (-1 : Int)) = inI l d) := by have := hno.out; rw [List.take_of_length_le (by have := HN.out.1; omega)] at this; rw [this]; rfl
      clear hno
      go_wp2
      go_ret
      exact ⟨_, rfl, HF.out, hbw⟩

set_option maxHeartbeats 1000000 in
theorem containsI_any (a : Option Addr) (l : List Int) (cap n : Nat) (d : Int) (w : World) (hn : n = l.length) (hl : l.length ≤ 9223372036854775807) (hp : RowAt 1 encI w a l) :
    Calls Try.prog 69 #[.slice a n cap, .int .i64 d] w fun e w' => e = .returned (.bool (inI l d)) ∧ Below w.heap.size w w' := by
  have HC := indexI_any a l cap n d w hn hl hp
  clear hn hl hp
  go_enter Try.func69, Try.ntmps69
  go_wp2_with fail
  refine HC.mono ?_
  rintro e w1 ⟨i, rfl, hi, hb1⟩
  have HI : Hid (decide (0 ≤ i) = inI l d) := hi
  clear hi HC
  go_wp2
  go_ret
  exact ⟨ret_bool HI.out, hb1⟩

set_option maxRecDepth 20000 in
set_option maxHeartbeats 1000000 in
theorem isDone_any (la ra da : Option Addr) (nl lc nr rc nd dc : Nat) (s0 s1 s2 s3 d : Int) (dn : List Int) (w : World) (hn : nd = dn.length) (hl : dn.length ≤ 9223372036854775807) (hp : RowAt 1 encI w da dn) :
    Calls Try.prog 35 #[.agg #[.slice la nl lc, .int .i64 s0, .int .i64 s1, .int .i64 s2, .int .i64 s3, .slice ra nr rc, .slice da nd dc], .int .i64 d] w fun e w' => e = .returned (.bool (inI dn d)) ∧ Below w.heap.size w w' := by
  have hb0 := below1 w (.cells #[.slice la nl lc, .int .i64 s0, .int .i64 s1, .int .i64 s2, .int .i64 s3, .slice ra nr rc, .slice da nd dc] 31)
  have HC := containsI_any da dn dc nd d _ hn hl (hp.below hb0)
  clear hn hl hp
  go_enter Try.func35, Try.ntmps35
  go_wp2_with fail
  refine HC.mono ?_
  rintro e w1 ⟨rfl, hb1⟩
  have hB1 : Below w.heap.size w w1 := hb0.trans (hb1.mono hb0.size)
  clear HC hb1 hb0
  go_wp2
  go_ret
  exact ⟨ret_bool rfl, hB1⟩

set_option maxHeartbeats 400000 in
theorem isReady1_any (x : XD) (b : Nat) (d : Int) (w : World) (hb : b < w.heap.size) (c0 : w.cell? ⟨b, 0, none⟩ = some (.int .i64 d)) :
    Calls Try.prog 68 #[.agg #[.int .i64 x.1, .slice x.2.1.1 x.2.2.length x.2.1.2], .pointer (some ⟨b, 0, none⟩)] w fun e w' => e = .returned (.bool (decide (x.1 = d))) ∧ Below w.heap.size w w' := by
  obtain ⟨dd, ⟨ax, cx⟩, l⟩ := x
  simp only
  generalize l.length = nl
  go_enter Try.func68, Try.ntmps68
  go_wp2
  all_goals
    go_ret
    refine ⟨ret_bool ?_, below1 _ _⟩
    rw [Bool.eq_iff_iff]; simp_all
set_option maxRecDepth 100000 in
theorem entersIR : Enters 68 := fun _ _ => rfl

theorem hasD_any {XR : List XD} {D : List D2} (h : XR.map stripD = D) (d : Int) : (XR.any fun x => decide (x.1 = d)) = hasD D d := by
  subst h
  unfold hasD
  rw [List.any_map]
  rfl

set_option maxRecDepth 20000 in
set_option maxHeartbeats 1000000 in
theorem isReady_any (la ra da : Option Addr) (nl lc nr rc nd dc : Nat) (s0 s1 s2 s3 d : Int) (XR : List XD) (D : List D2) (w : World) (h : RdyAt w ra nr XR D) :
    Calls Try.prog 34 #[.agg #[.slice la nl lc, .int .i64 s0, .int .i64 s1, .int .i64 s2, .int .i64 s3, .slice ra nr rc, .slice da nd dc], .int .i64 d] w fun e w' => e = .returned (.bool (hasD D d)) ∧ Below w.heap.size w w' := by
  have hb0 := below2 w (.cells #[.slice la nl lc, .int .i64 s0, .int .i64 s1, .int .i64 s2, .int .i64 s3, .slice ra nr rc, .slice da nd dc] 31) (.cells #[.int .i64 d] 3)
  have hd : Blk ((w.alloc (.cells #[.slice la nl lc, .int .i64 s0, .int .i64 s1, .int .i64 s2, .int .i64 s3, .slice ra nr rc, .slice da nd dc] 31)).alloc (.cells #[.int .i64 d] 3)) (w.heap.size + 1) #[.int .i64 d] 3 := heap2 _ _ _
  have HC := containsR_any 68 (w.heap.size + 1) entersIR (fun x => decide (x.1 = d)) ra XR rc nr _ h.n h.few (h.lies.1.below hb0) (fun x _ w' hb => isReady1_any x (w.heap.size + 1) d w' (Nat.lt_of_lt_of_le hd.lt hb.size) ((hd.below hb hd.lt).cell 0))
  rw [hasD_any h.says] at HC
  clear h hd
  go_enter Try.func34, Try.ntmps34
  go_wp2_with fail
  refine HC.mono ?_
  rintro e w1 ⟨rfl, hb1⟩
  have hB1 : Below w.heap.size w w1 := hb0.trans (hb1.mono hb0.size)
  clear HC hb1 hb0
  go_wp2
  go_ret
  exact ⟨ret_bool rfl, hB1⟩

theorem freeB_taken {D : List D2} (hD : ∀ x ∈ D, 0 ≤ x.1) (l : List P3) : freeB D l = !takenB D l := by
  unfold freeB takenB
  rw [List.not_any_eq_all_not]
  congr 1
  funext p
  have h := whoB_neg hD p.2.1
  have e : decide (0 ≤ whoB D p.2.1) = !decide (whoB D p.2.1 < 0) := by
    rw [Bool.eq_iff_iff]
    simp
  rw [e, h]
  simp

set_option maxRecDepth 20000 in
set_option maxHeartbeats 2000000 in
theorem vote_any (la ra da pa : Option Addr) (nl lc nr rc nd dc np pc : Nat) (s0 s1 s2 s3 d : Int) (XR : List XD) (D : List D2) (dn : List Int) (l : List P3) (w : World) (h : RdyAt w ra nr XR D) (hnd : nd = dn.length) (hdl : dn.length ≤ 9223372036854775807) (hdn : RowAt 1 encI w da dn)
    (hnp : np = l.length) (hok : OkP l) (hq : PartsAt w pa l) (hw : Within 2199023255552 (s0, s1, s2, s3)) (hpos : ∀ x ∈ D, 0 ≤ x.1) :
    Calls Try.prog 11 #[.agg #[.slice la nl lc, .int .i64 s0, .int .i64 s1, .int .i64 s2, .int .i64 s3, .slice ra nr rc, .slice da nd dc], .int .i64 d, .slice pa np pc] w fun e w' => e = .returned (.int .i64 (voteB ((s0, s1, s2, s3), D, dn) d l)) ∧ Below w.heap.size w w' := by
  have HN : Hid (RdyAt w ra nr XR D ∧ (nd = dn.length ∧ dn.length ≤ 9223372036854775807 ∧ RowAt 1 encI w da dn) ∧ (np = l.length ∧ OkP l ∧ PartsAt w pa l) ∧ Within 2199023255552 (s0, s1, s2, s3) ∧ (∀ x ∈ D, 0 ≤ x.1)) := ⟨h, ⟨hnd, hdl, hdn⟩, ⟨hnp, hok, hq⟩, hw, hpos⟩
  clear h hnd hdl hdn hnp hok hq hw hpos
  have hb0 := below1 w (.cells #[.slice la nl lc, .int .i64 s0, .int .i64 s1, .int .i64 s2, .int .i64 s3, .slice ra nr rc, .slice da nd dc] 31)
  have hh0 : Blk (w.alloc (.cells #[.slice la nl lc, .int .i64 s0, .int .i64 s1, .int .i64 s2, .int .i64 s3, .slice ra nr rc, .slice da nd dc] 31)) w.heap.size #[.slice la nl lc, .int .i64 s0, .int .i64 s1, .int .i64 s2, .int .i64 s3, .slice ra nr rc, .slice da nd dc] 31 := Blk.new _ _ _
  go_enter Try.func11, Try.ntmps11
  go_wp2_with fail
  generalize w.alloc (.cells #[.slice la nl lc, .int .i64 s0, .int .i64 s1, .int .i64 s2, .int .i64 s3, .slice ra nr rc, .slice da nd dc] 31) = W at *
  refine (isDone_any la ra da nl lc nr rc nd dc s0 s1 s2 s3 d dn W HN.out.2.1.1 HN.out.2.1.2.1 (HN.out.2.1.2.2.below hb0)).mono ?_
  rintro e w1 ⟨rfl, hb1⟩
  have hB1 : Below w.heap.size w w1 := hb0.trans (hb1.mono hb0.size)
  have hh1 := hh0.below hb1 hh0.lt
  clear hb1 hb0 hh0
  cases hz1 : inI dn d
  · have q0 := hh1.cell 0
    have q1 := hh1.cell 1
    have q2 := hh1.cell 2
    have q3 := hh1.cell 3
    have q4 := hh1.cell 4
    have q5 := hh1.cell 5
    have q6 := hh1.cell 6
    have hql := hh1.lt
    simp at q0 q1 q2 q3 q4 q5 q6
    have HZ1 : Hid (inI dn d = false) := hz1
    clear hz1
    go_wp2_with fail
    refine (isReady_any la ra da nl lc nr rc nd dc s0 s1 s2 s3 d XR D w1 (HN.out.1.below hB1)).mono ?_
    rintro e w2 ⟨rfl, hb2⟩
    have hB2 : Below w.heap.size w w2 := hB1.trans (hb2.mono hB1.size)
    have hh2 := hh1.below hb2 hh1.lt
    clear hb2 hh1 hB1 q0 q1 q2 q3 q4 q5 q6 hql
    cases hz2 : hasD D d
    · have HZ2 : Hid (hasD D d = false) := hz2
      clear hz2
      have q0 := hh2.cell 0
      have q1 := hh2.cell 1
      have q2 := hh2.cell 2
      have q3 := hh2.cell 3
      have q4 := hh2.cell 4
      have q5 := hh2.cell 5
      have q6 := hh2.cell 6
      have hql := hh2.lt
      simp at q0 q1 q2 q3 q4 q5 q6
      have hnp4 : np ≤ 4 := by have := HN.out.2.2.1.1; have := HN.out.2.2.1.2.1.1; omega
      go_wp2_with fail
      refine (freeR_any la ra da pa nl lc nr rc nd dc np pc s0 s1 s2 s3 XR D l w2 (HN.out.1.below hB2) HN.out.2.2.1.1 (by have := HN.out.2.2.1.2.1.1; omega) (HN.out.2.2.1.2.2.below hB2)).mono ?_
      rintro e w3 ⟨rfl, hb3⟩
      have hB3 : Below w.heap.size w w3 := hB2.trans (hb3.mono hB2.size)
      have hh3 := hh2.below hb3 hh2.lt
      clear hb3 hh2 hB2 q0 q1 q2 q3 q4 q5 q6 hql
      rw [freeB_taken HN.out.2.2.2.2]
      cases hz3 : takenB D l
      · have HF : Hid (voteB ((s0, s1, s2, s3), D, dn) d l = fitsB (s0, s1, s2, s3) l) := by
          show _ = _
          unfold voteB
          simp only
          rw [HZ1.out, if_neg (by simp), HZ2.out, if_neg (by simp), hz3, if_neg (by simp)]
        clear hz3
        have q1 := hh3.cell 1
        have q2 := hh3.cell 2
        have q3 := hh3.cell 3
        have q4 := hh3.cell 4
        have hql := hh3.lt
        simp at q1 q2 q3 q4
        go_wp2_with fail
        refine (fits_any s0 s1 s2 s3 pa l pc np w3 HN.out.2.2.1.1 HN.out.2.2.1.2.1.1 (HN.out.2.2.1.2.2.below hB3) HN.out.2.2.1.2.1.2.1 HN.out.2.2.2.1).mono ?_
        rintro e w4 ⟨rfl, hb4⟩
        have hB4 : Below w.heap.size w w4 := hB3.trans (hb4.mono hB3.size)
        clear q1 q2 q3 q4 hb4 hh3
        go_wp2
        go_ret
        exact ⟨ret_int HF.out.symm, hB4⟩
      · have HF : Hid (voteB ((s0, s1, s2, s3), D, dn) d l = 12) := by
          show _ = _
          unfold voteB
          simp only
          rw [HZ1.out, if_neg (by simp), HZ2.out, if_neg (by simp), hz3, if_pos rfl]
        clear hz3
        go_wp2
        go_ret
        exact ⟨ret_int HF.out.symm, hB3⟩
    · have HF : Hid (voteB ((s0, s1, s2, s3), D, dn) d l = 0) := by
        show _ = _
        unfold voteB
        simp only
        rw [HZ1.out, if_neg (by simp), hz2, if_pos rfl]
      clear hz2
      go_wp2
      go_ret
      exact ⟨ret_int HF.out.symm, hB2⟩
  · have HF : Hid (voteB ((s0, s1, s2, s3), D, dn) d l = 10) := by
      show _ = _
      unfold voteB
      simp only
      rw [hz1, if_pos rfl]
    clear hz1
    go_wp2
    go_ret
    exact ⟨ret_int HF.out.symm, hB1⟩

end Go.Proofs.Ytikmnaegalmfeaa
