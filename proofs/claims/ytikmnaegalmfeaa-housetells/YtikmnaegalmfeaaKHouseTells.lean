/- What the law HouseTells does, called at whatever log and message. -/
import Derived.Test.YtikmnaegalmfeaaKJ35
import Derived.Test.YtikmnaegalmfeaaKHear3
import Derived.Test.YtikmnaegalmfeaaKRefT
import Derived.Deep.DeepCutAuto
namespace Go.Proofs.Ytikmnaegalmfeaa
open Go.RowKit
attribute [local go_sem ↓] Go.wp_at_zero Go.wp_at_succ

theorem HouseU.open {w : World} {v : Value} {L : List R3} {h : H3} (hh : HouseU w v L h) : ∃ (la : Option Addr) (nl lc : Nat) (t0 t1 t2 t3 : Int) (ra : Option Addr) (nr rc : Nat) (da : Option Addr) (nd dc : Nat), v = .agg #[.slice la nl lc, .int .i64 t0, .int .i64 t1, .int .i64 t2, .int .i64 t3, .slice ra nr rc, .slice da nd dc] := by
  obtain ⟨la, nl, lc, Y, ra, nr, rc, XR, da, nd, dc, hv, -⟩ := hh
  exact ⟨la, nl, lc, _, _, _, _, ra, nr, rc, da, nd, dc, hv⟩
theorem HouseU.all {w : World} {la ra da : Option Addr} {nl lc nr rc nd dc : Nat} {t0 t1 t2 t3 : Int} {L : List R3} {h : H3} {k : Nat} (hh : HouseU w (.agg #[.slice la nl lc, .int .i64 t0, .int .i64 t1, .int .i64 t2, .int .i64 t3, .slice ra nr rc, .slice da nd dc]) L h) (hi : HInv k h) (hk : k ≤ 9223372036854775807) : (t0 = h.1.1 ∧ t1 = h.1.2.1 ∧ t2 = h.1.2.2.1 ∧ t3 = h.1.2.2.2) ∧ ∃ XR, RdyAt w ra nr XR h.2.1 ∧ nd = h.2.2.length ∧ RowAt 1 encI w da h.2.2 := by
  obtain ⟨la', nl', lc', Y, ra', nr', rc', XR, da', nd', dc', hv, _, ⟨h4, h5, h6⟩, h7, h8⟩ := hh
  injection hv with hv
  injection hv with hv
  simp only [List.cons.injEq, and_true, Value.int.injEq, true_and] at hv
  obtain ⟨e0, e1, e2, e3, e4, e5, e6⟩ := hv
  cases e5
  cases e6
  refine ⟨⟨e1, e2, e3, e4⟩, XR, ⟨h4, ?_, ?_, h6, h5⟩, h7, h8⟩
  · have h1 := hi.few
    rw [← h5, List.length_map] at h1
    omega
  · intro x hx
    have h1 := (hi.ok (stripD x) (by rw [← h5]; exact List.mem_map.2 ⟨x, hx, rfl⟩)).1
    have h2 : x.2.2.length ≤ 4 := h1
    omega
theorem msgX_strip {M : List Q4} (h : ∀ q ∈ M, q.2.2.2 = []) : (M.map msgX).map stripM = M := by
  rw [List.map_map]
  conv => rhs; rw [← List.map_id M]
  refine List.map_congr_left (fun q hq => ?_)
  have := h q hq
  obtain ⟨a, b, c, d⟩ := q
  simp only at this
  subst this
  rfl
theorem hearM_parts (L : List R3) (me k d : Int) (l : List P3) : ∀ q ∈ hearM L me k d l, q.2.2.2 = [] := by
  intro q hq
  obtain ⟨s, _, rfl⟩ := List.mem_map.1 hq
  rfl

set_option maxRecDepth 20000 in
set_option maxHeartbeats 16000000 in
theorem houseTells_any (a : Option Addr) (X : List XL) (cap n : Nat) (k d hs : Int) (ma : Option Addr) (l : List P3) (nm cm : Nat) (w : World) (hn : n = X.length) (hl : X.length ≤ 9223372036854775807) (hm : ∀ x ∈ X, x.2.2.2.length ≤ 9223372036854775807) (hp : RecsAt w a X) (hnm : nm = l.length) (hml : l.length ≤ 9223372036854775807) (hq : PartsAt w ma l) :
    Calls Try.prog 3 #[.slice a n cap, .agg #[.int .i64 k, .int .i64 d, .int .i64 hs, .slice ma nm cm]] w fun e w' => e = .returned (.bool true) ∧ Below w.heap.size w w' := by
  have HN : Hid ((n = X.length ∧ X.length ≤ 9223372036854775807 ∧ (∀ x ∈ X, x.2.2.2.length ≤ 9223372036854775807) ∧ RecsAt w a X) ∧ (nm = l.length ∧ l.length ≤ 9223372036854775807 ∧ PartsAt w ma l)) := ⟨⟨hn, hl, hm, hp⟩, hnm, hml, hq⟩
  have hb0 := below1 w (.cells #[.int .i64 k, .int .i64 d, .int .i64 hs, .slice ma nm cm] 25)
  have hm0 : Blk (w.alloc (.cells #[.int .i64 k, .int .i64 d, .int .i64 hs, .slice ma nm cm] 25)) w.heap.size #[.int .i64 k, .int .i64 d, .int .i64 hs, .slice ma nm cm] 25 := Blk.new _ _ _
  clear hn hl hm hp hnm hml hq
  go_enter Try.func3, Try.ntmps3
  go_wp2_with fail
  generalize (w.alloc (.cells #[.int .i64 k, .int .i64 d, .int .i64 hs, .slice ma nm cm] 25)) = w1 at *
  refine (right_any a X cap n k d hs ma l nm cm w1 HN.out.1.1 HN.out.1.2.1 HN.out.1.2.2.1 (HN.out.1.2.2.2.below hb0) HN.out.2.1 HN.out.2.2.1 (HN.out.2.2.2.below hb0)).mono ?_
  rintro e W ⟨rfl, hb2⟩
  have hm2 := hm0.below hb2 hm0.lt
  have hB2 : Below w.heap.size w W := hb0.trans (hb2.mono hb0.size)
  clear hm0 hb2 hb0
  generalize hz : (rightLog (X.map stripL) && decide (wrongMB k d hs l = 0) && rightS (houseB (X.map stripL)).1) = z at *
  cases z
  · clear hz
    go_wp2
    go_ret
    exact ⟨rfl, hB2⟩
  simp only [Bool.and_eq_true, decide_eq_true_eq] at hz
  obtain ⟨⟨hz1, hz2⟩, hz3⟩ := hz
  have hmild := Mild.right hz1
  have hmild1 : Mild (hearL (X.map stripL) k d l) := hmild.hear hz2
  have hlen := (rightLog_ok hz1).2
  have hlen1 := hearL_len (X.map stripL) k d l
  have hok : OkP l := by
    obtain ⟨_, _, _, _, h5, h6⟩ := wrongMB_ok hz2
    by_cases h1 : 1 < k
    · rw [h5 h1]; exact okP_nil
    · have : k = 1 := by have := (wrongMB_ok hz2).2.2.1; omega
      exact okP_wrong (h6 this).1
  have hcalc : ∀ r, hearR (houseB (X.map stripL)) k d l = some r → CalcL (X.map stripL ++ [r]) := fun r hr => by have h := hmild1; rw [hearL_some hr] at h; exact h.calc (by rw [List.length_append, List.length_singleton]; omega)
  have hinv := houseB_inv hmild.ok
  have hwi := hmild.bound.within
  have HQ : Hid (OkP l ∧ (∀ r, hearR (houseB (X.map stripL)) k d l = some r → CalcL (X.map stripL ++ [r])) ∧ Mild (X.map stripL) ∧ (X.map stripL).length ≤ 60 ∧ HInv (X.map stripL).length (houseB (X.map stripL)) ∧ Within 2199023255552 (houseB (X.map stripL)).1) := ⟨hok, hcalc, hmild, hlen, hinv, hwi⟩
  have HSz : Hid (SizeH (hearL (X.map stripL) k d l) (houseB (hearL (X.map stripL) k d l)) ∧ (hearM (X.map stripL) hs k d l).length ≤ 1 ∧ ∀ q ∈ hearM (X.map stripL) hs k d l, q.2.2.2 = []) := ⟨sizeH_of hmild1.ok (by omega) (houseB_inv hmild1.ok) (by omega), hearM_len _ _ _ _ _, hearM_parts _ _ _ _ _⟩
  have HW : Hid (Below w.heap.size w W ∧ Blk W w.heap.size #[.int .i64 k, .int .i64 d, .int .i64 hs, .slice ma nm cm] 25 ∧ RecsAt W a X ∧ PartsAt W ma l) := ⟨hB2, hm2, HN.out.1.2.2.2.below hB2, HN.out.2.2.2.below hB2⟩
  have hltW := hm2.lt
  clear hmild hmild1 hlen hlen1 hz1 hz2 hz3 hok hcalc hinv hwi hB2 hm2
  go_wp2_with fail
  refine (refHouse_any a X cap n W HN.out.1.1 (HQ.out.2.2.1.calc (by have := HQ.out.2.2.2.1; omega)) HW.out.2.2.1).mono ?_
  rintro e w2 ⟨v2, rfl, hv2, hb2⟩
  obtain ⟨sla, snl, slc, s0, s1, s2, s3, sra, snr, src, sda, snd, sdc, rfl⟩ := hv2.u.open
  have hb3 := below1 w2 (.cells #[.slice sla snl slc, .int .i64 s0, .int .i64 s1, .int .i64 s2, .int .i64 s3, .slice sra snr src, .slice sda snd sdc] 31)
  have hA : Blk (w2.alloc (.cells #[.slice sla snl slc, .int .i64 s0, .int .i64 s1, .int .i64 s2, .int .i64 s3, .slice sra snr src, .slice sda snd sdc] 31)) w2.heap.size #[.slice sla snl slc, .int .i64 s0, .int .i64 s1, .int .i64 s2, .int .i64 s3, .slice sra snr src, .slice sda snd sdc] 31 := Blk.new _ _ _
  have hu3 := hv2.u.below hb3
  have hm3 := (HW.out.2.1.below hb2 HW.out.2.1.lt).below hb3 (Nat.lt_of_lt_of_le hltW hb2.size)
  have hB3 : Below W.heap.size W (w2.alloc (.cells #[.slice sla snl slc, .int .i64 s0, .int .i64 s1, .int .i64 s2, .int .i64 s3, .slice sra snr src, .slice sda snd sdc] 31)) := hb2.trans (hb3.mono hb2.size)
  have r0 := hm3.cell 0
  have r1 := hm3.cell 1
  have r2 := hm3.cell 2
  have r3 := hm3.cell 3
  have rl := hm3.lt
  obtain ⟨⟨q0, q1, q2, q3, q4, q5, q6⟩, -⟩ := zcells hA
  have ql := hA.lt
  simp at r0 r1 r2 r3
  clear hv2 hb2 hb3
  go_wp2_with fail
  clear r0 r1 r2 r3 rl q0 q1 q2 q3 q4 q5 q6 ql
  generalize (w2.alloc (.cells #[.slice sla snl slc, .int .i64 s0, .int .i64 s1, .int .i64 s2, .int .i64 s3, .slice sra snr src, .slice sda snd sdc] 31)) = V1 at *
  generalize w2.heap.size = A at *
  refine (hear_any (.agg #[.slice sla snl slc, .int .i64 s0, .int .i64 s1, .int .i64 s2, .int .i64 s3, .slice sra snr src, .slice sda snd sdc]) (X.map stripL) hs k d hs ma nm cm l V1 hu3 HN.out.2.1 (HW.out.2.2.2.below hB3) HQ.out.1 (HQ.out.2.2.1.calc (by have := HQ.out.2.2.2.1; omega)) HQ.out.2.2.1.bound.pos HQ.out.2.1).mono ?_
  rintro e w3 ⟨v3, sa, sn, sc, rfl, hv3, ho3, hb4⟩
  obtain ⟨xla, xnl, xlc, x0, x1, x2, x3, xra, xnr, xrc, xda, xnd, xdc, rfl⟩ := houseN_open hv3
  have hb5 := below1 w3 (.cells #[.slice xla xnl xlc, .int .i64 x0, .int .i64 x1, .int .i64 x2, .int .i64 x3, .slice xra xnr xrc, .slice xda xnd xdc] 31)
  have hB : Blk (w3.alloc (.cells #[.slice xla xnl xlc, .int .i64 x0, .int .i64 x1, .int .i64 x2, .int .i64 x3, .slice xra xnr xrc, .slice xda xnd xdc] 31)) w3.heap.size #[.slice xla xnl xlc, .int .i64 x0, .int .i64 x1, .int .i64 x2, .int .i64 x3, .slice xra xnr xrc, .slice xda xnd xdc] 31 := Blk.new _ _ _
  have hb45 := hb4.trans (hb5.mono hb4.size)
  have hu5 := hu3.below hb45
  have hA5 := hA.below hb45 hA.lt
  have hm5 := hm3.below hb45 hm3.lt
  have hx5 := hv3.u.below hb5
  have ho5 := ho3.below hb5 (Nat.le_refl _)
  have hB5 := hB3.trans (hb45.mono hB3.size)
  have r0 := hm5.cell 0
  have r1 := hm5.cell 1
  have r2 := hm5.cell 2
  have r3 := hm5.cell 3
  have rl := hm5.lt
  obtain ⟨⟨q0, q1, q2, q3, q4, q5, q6⟩, -⟩ := zcells hA5
  have ql := hA5.lt
  simp at r0 r1 r2 r3
  clear hu3 hA hm3 hv3 ho3 hb4 hb5 hb45 hB3
  go_wp2_with fail
  clear r0 r1 r2 r3 rl q0 q1 q2 q3 q4 q5 q6 ql
  generalize (w3.alloc (.cells #[.slice xla xnl xlc, .int .i64 x0, .int .i64 x1, .int .i64 x2, .int .i64 x3, .slice xra xnr xrc, .slice xda xnd xdc] 31)) = V2 at *
  generalize w3.heap.size = B at *
  refine (refHear_any (fun _ => False) (.agg #[.slice sla snl slc, .int .i64 s0, .int .i64 s1, .int .i64 s2, .int .i64 s3, .slice sra snr src, .slice sda snd sdc]) (X.map stripL) hs k d hs ma nm cm l V2 (fun b h => h.elim) hu5.v HN.out.2.1 ((HW.out.2.2.2.below hB5).outR (fun b h => h.elim)) HQ.out.1 HQ.out.2.2.1.ok (by have := HQ.out.2.2.2.1; omega) HQ.out.2.2.2.2.2 HQ.out.2.1).mono ?_
  rintro e w4 ⟨v4, sv4, rfl, hv4, ⟨ya, yn, yc, XY, rfl, hM4⟩, hb6⟩
  obtain ⟨yla, ynl, ylc, y0, y1, y2, y3, yra, ynr, yrc, yda, ynd, ydc, rfl⟩ := hv4.u.open
  have hb7 := below1 w4 (.cells #[.slice yla ynl ylc, .int .i64 y0, .int .i64 y1, .int .i64 y2, .int .i64 y3, .slice yra ynr yrc, .slice yda ynd ydc] 31)
  have hC : Blk (w4.alloc (.cells #[.slice yla ynl ylc, .int .i64 y0, .int .i64 y1, .int .i64 y2, .int .i64 y3, .slice yra ynr yrc, .slice yda ynd ydc] 31)) w4.heap.size #[.slice yla ynl ylc, .int .i64 y0, .int .i64 y1, .int .i64 y2, .int .i64 y3, .slice yra ynr yrc, .slice yda ynd ydc] 31 := Blk.new _ _ _
  have hb67 := hb6.trans (hb7.mono hb6.size)
  have hu7 := hu5.below hb67
  have hA7 := hA5.below hb67 hA5.lt
  have hB7 := hB.below hb67 hB.lt
  have hm7 := hm5.below hb67 hm5.lt
  have hx7 := hx5.below hb67
  have hy7 := hv4.u.below hb7
  have ho7 := ho5.below hb67 (Nat.le_refl _)
  have hM7 := hM4.below hb7
  have hBW7 := hB5.trans (hb67.mono hB5.size)
  clear hu5 hA5 hB hm5 hx5 hv4 ho5 hM4 hb6 hb7 hb67 hB5
  go_upto_region 6 with fail
  generalize (w4.alloc (.cells #[.slice yla ynl ylc, .int .i64 y0, .int .i64 y1, .int .i64 y2, .int .i64 y3, .slice yra ynr yrc, .slice yda ynd ydc] 31)) = V at *
  generalize w4.heap.size = C at *
  obtain ⟨⟨e0, e1, e2, e3⟩, XR, hrdy, hnd, hdn⟩ := hu7.all HQ.out.2.2.2.2.1 (by have := HQ.out.2.2.2.1; omega)
  have HL1 : Hid (∀ w', Below V.heap.size V w' → Calls Try.prog 11 #[.agg #[.slice sla snl slc, .int .i64 s0, .int .i64 s1, .int .i64 s2, .int .i64 s3, .slice sra snr src, .slice sda snd sdc], .int .i64 d, .slice ma nm cm] w' fun e w'' => e = .returned (.int .i64 (voteB (houseB (X.map stripL)) d l)) ∧ Below w'.heap.size w' w'') := fun w' hb => by
    have h := vote_any sla sra sda ma snl slc snr src snd sdc nm cm s0 s1 s2 s3 d XR (houseB (X.map stripL)).2.1 (houseB (X.map stripL)).2.2 l w' (hrdy.below hb) hnd (by have h1 := HQ.out.2.2.2.2.1.done; have h2 := HQ.out.2.2.2.1; omega) (hdn.below hb) HN.out.2.1 HQ.out.1 ((HW.out.2.2.2.below hBW7).below hb) (by rw [e0, e1, e2, e3]; exact HQ.out.2.2.2.2.2) HQ.out.2.2.1.bound.pos
    rw [show ((s0, s1, s2, s3), (houseB (X.map stripL)).2.1, (houseB (X.map stripL)).2.2) = houseB (X.map stripL) by rw [e0, e1, e2, e3]] at h
    exact h
  have HL2 : Hid (∀ w', Below V.heap.size V w' → Calls Try.prog 12 #[.agg #[.slice sla snl slc, .int .i64 s0, .int .i64 s1, .int .i64 s2, .int .i64 s3, .slice sra snr src, .slice sda snd sdc], .int .i64 d, .slice ma nm cm] w' fun e w'' => e = .returned (.int .i64 (voteB (houseB (X.map stripL)) d l)) ∧ Below w'.heap.size w' w'') := fun w' hb => by
    have h := refVote_any sla sra sda ma snl slc snr src snd sdc nm cm s0 s1 s2 s3 d XR (houseB (X.map stripL)).2.1 (houseB (X.map stripL)).2.2 l w' (hrdy.below hb) hnd (by have h1 := HQ.out.2.2.2.2.1.done; have h2 := HQ.out.2.2.2.1; omega) (hdn.below hb) HN.out.2.1 HQ.out.1 ((HW.out.2.2.2.below hBW7).below hb) (by rw [e0, e1, e2, e3]; exact HQ.out.2.2.2.2.2)
    rw [show ((s0, s1, s2, s3), (houseB (X.map stripL)).2.1, (houseB (X.map stripL)).2.2) = houseB (X.map stripL) by rw [e0, e1, e2, e3]] at h
    exact h
  have HL3 : Hid (∀ w', Below V.heap.size V w' → Calls Try.prog 13 #[.agg #[.slice xla xnl xlc, .int .i64 x0, .int .i64 x1, .int .i64 x2, .int .i64 x3, .slice xra xnr xrc, .slice xda xnd xdc], .agg #[.slice yla ynl ylc, .int .i64 y0, .int .i64 y1, .int .i64 y2, .int .i64 y3, .slice yra ynr yrc, .slice yda ynd ydc]] w' fun e w'' => e = .returned (.bool true) ∧ Below w'.heap.size w' w'') := fun w' hb => sameHouse_gen _ _ _ _ w' (hx7.below hb) (hy7.below hb) HSz.out.1
  have HL4 : Hid (∀ w', Below V.heap.size V w' → Calls Try.prog 14 #[.slice sa sn sc, .slice ya yn yc] w' fun e w'' => e = .returned (.bool true) ∧ Below w'.heap.size w' w'') := fun w' hb => by
    have h1 := (ho7.below hb (Nat.le_refl _)).at lenM
    have h2 := hM7.below hb
    exact sameMsgs_any sa ya _ XY sc yc sn yn w' h1.2.1 h2.n (by rw [msgX_strip HSz.out.2.2, h2.says]) (by rw [List.length_map]; have := HSz.out.2.1; omega) msgX_small h1.1 h2.row msgX_parts (fun x hx => (h2.parts x hx).1)
  have hXl : XR.length ≤ 60 := by
    have h1 := HQ.out.2.2.2.2.1.few
    have h2 := HQ.out.2.2.2.1
    rw [← hrdy.says, List.length_map] at h1
    omega
  have HL5 : Hid (∀ w', Below V.heap.size V w' → Calls Try.prog 15 #[.agg #[.slice sla snl slc, .int .i64 s0, .int .i64 s1, .int .i64 s2, .int .i64 s3, .slice sra snr src, .slice sda snd sdc], .int .i64 hs] w' fun e w'' => ∃ a' n' c', e = .returned (.slice a' n' c') ∧ OwnL 25 4 encM w'' w'.heap.size (.slice a' n' c') ((houseB (X.map stripL)).2.1.map fun x => (7, x.1, hs, (none, 0), [])) ∧ Below w'.heap.size w' w'') := fun w' hb => tick_any sla sra sda snl slc snr src snd sdc s0 s1 s2 s3 hs XR _ w' (hrdy.below hb) (by omega)
  have HL6 : Hid (∀ w', Below V.heap.size V w' → Calls Try.prog 16 #[.agg #[.slice sla snl slc, .int .i64 s0, .int .i64 s1, .int .i64 s2, .int .i64 s3, .slice sra snr src, .slice sda snd sdc], .int .i64 hs] w' fun e w'' => ∃ a' n' c', e = .returned (.slice a' n' c') ∧ OwnL 25 4 encM w'' w'.heap.size (.slice a' n' c') ((houseB (X.map stripL)).2.1.map fun x => (7, x.1, hs, (none, 0), [])) ∧ Below w'.heap.size w' w'') := fun w' hb => refTick_any sla sra sda snl slc snr src snd sdc s0 s1 s2 s3 hs XR _ w' (hrdy.below hb) (by omega)
  have hDl : (houseB (X.map stripL)).2.1.length ≤ 60 := by rw [← hrdy.says, List.length_map]; exact hXl
  generalize (houseB (X.map stripL)).2.1 = DD at *
  have HT : Hid (∀ (w' : World) (b1 b2 : Nat) (a1 a2 : Option Addr) (n1 n2 c1 c2 : Nat), OwnL 25 4 encM w' b1 (.slice a1 n1 c1) (DD.map fun x => (7, x.1, hs, (none, 0), [])) → OwnL 25 4 encM w' b2 (.slice a2 n2 c2) (DD.map fun x => (7, x.1, hs, (none, 0), [])) → Calls Try.prog 14 #[.slice a1 n1 c1, .slice a2 n2 c2] w' fun e w'' => e = .returned (.bool true) ∧ Below w'.heap.size w' w'') := fun w' b1 b2 a1 a2 n1 n2 c1 c2 g1 g2 => by
    have h1 := g1.at lenM
    have h2 := g2.at lenM
    exact sameMsgs_any a1 a2 _ _ c1 c2 n1 n2 w' h1.2.1 h2.2.1 rfl (by rw [List.length_map]; omega) (fun x hx => by obtain ⟨q, _, rfl⟩ := List.mem_map.1 hx; simp) h1.1 h2.1 (fun x hx => by obtain ⟨q, _, rfl⟩ := List.mem_map.1 hx; exact Or.inl rfl) (fun x hx => by obtain ⟨q, _, rfl⟩ := List.mem_map.1 hx; exact Or.inl rfl)
  generalize voteB (houseB (X.map stripL)) d l = vt at *
  have HK : Hid (∀ w', Below V.heap.size V w' → ((w'.cell? ⟨w.heap.size, 0, none⟩ = some (.int .i64 k) ∧ w'.cell? ⟨w.heap.size, 1, none⟩ = some (.int .i64 d) ∧ w'.cell? ⟨w.heap.size, 2, none⟩ = some (.int .i64 hs) ∧ w'.cell? ⟨w.heap.size, 3, none⟩ = some (.slice ma nm cm)) ∧ (w'.cell? ⟨A, 0, none⟩ = some (.slice sla snl slc) ∧ w'.cell? ⟨A, 1, none⟩ = some (.int .i64 s0) ∧ w'.cell? ⟨A, 2, none⟩ = some (.int .i64 s1) ∧ w'.cell? ⟨A, 3, none⟩ = some (.int .i64 s2) ∧ w'.cell? ⟨A, 4, none⟩ = some (.int .i64 s3) ∧ w'.cell? ⟨A, 5, none⟩ = some (.slice sra snr src) ∧ w'.cell? ⟨A, 6, none⟩ = some (.slice sda snd sdc)) ∧ (w'.cell? ⟨B, 0, none⟩ = some (.slice xla xnl xlc) ∧ w'.cell? ⟨B, 1, none⟩ = some (.int .i64 x0) ∧ w'.cell? ⟨B, 2, none⟩ = some (.int .i64 x1) ∧ w'.cell? ⟨B, 3, none⟩ = some (.int .i64 x2) ∧ w'.cell? ⟨B, 4, none⟩ = some (.int .i64 x3) ∧ w'.cell? ⟨B, 5, none⟩ = some (.slice xra xnr xrc) ∧ w'.cell? ⟨B, 6, none⟩ = some (.slice xda xnd xdc)) ∧ (w'.cell? ⟨C, 0, none⟩ = some (.slice yla ynl ylc) ∧ w'.cell? ⟨C, 1, none⟩ = some (.int .i64 y0) ∧ w'.cell? ⟨C, 2, none⟩ = some (.int .i64 y1) ∧ w'.cell? ⟨C, 3, none⟩ = some (.int .i64 y2) ∧ w'.cell? ⟨C, 4, none⟩ = some (.int .i64 y3) ∧ w'.cell? ⟨C, 5, none⟩ = some (.slice yra ynr yrc) ∧ w'.cell? ⟨C, 6, none⟩ = some (.slice yda ynd ydc)))) := fun w' hb =>
    ⟨⟨(hm7.below hb hm7.lt).cell 0, (hm7.below hb hm7.lt).cell 1, (hm7.below hb hm7.lt).cell 2, (hm7.below hb hm7.lt).cell 3⟩, (zcells (hA7.below hb hA7.lt)).1, (zcells (hB7.below hb hB7.lt)).1, (zcells (hC.below hb hC.lt)).1⟩
  have hX0 : Below V.heap.size V V.drew := (Below.refl _ _).drew
  have HV : Hid (Below w.heap.size w V) := HW.out.1.trans (hBW7.mono HW.out.1.size)
  have l1 := hm7.lt
  have l2 := hA7.lt
  have l3 := hB7.lt
  have l4 := hC.lt
  clear e0 e1 e2 e3 hrdy hnd hdn hu7 hA7 hB7 hm7 hx7 hy7 ho7 hM7 hBW7 hC hXl hDl
  go_region_held3 (fun w' => ((w'.cell? ⟨w.heap.size, 0, none⟩ = some (.int .i64 k) ∧ w'.cell? ⟨w.heap.size, 1, none⟩ = some (.int .i64 d) ∧ w'.cell? ⟨w.heap.size, 2, none⟩ = some (.int .i64 hs) ∧ w'.cell? ⟨w.heap.size, 3, none⟩ = some (.slice ma nm cm)) ∧ (w'.cell? ⟨A, 0, none⟩ = some (.slice sla snl slc) ∧ w'.cell? ⟨A, 1, none⟩ = some (.int .i64 s0) ∧ w'.cell? ⟨A, 2, none⟩ = some (.int .i64 s1) ∧ w'.cell? ⟨A, 3, none⟩ = some (.int .i64 s2) ∧ w'.cell? ⟨A, 4, none⟩ = some (.int .i64 s3) ∧ w'.cell? ⟨A, 5, none⟩ = some (.slice sra snr src) ∧ w'.cell? ⟨A, 6, none⟩ = some (.slice sda snd sdc)) ∧ (w'.cell? ⟨B, 0, none⟩ = some (.slice xla xnl xlc) ∧ w'.cell? ⟨B, 1, none⟩ = some (.int .i64 x0) ∧ w'.cell? ⟨B, 2, none⟩ = some (.int .i64 x1) ∧ w'.cell? ⟨B, 3, none⟩ = some (.int .i64 x2) ∧ w'.cell? ⟨B, 4, none⟩ = some (.int .i64 x3) ∧ w'.cell? ⟨B, 5, none⟩ = some (.slice xra xnr xrc) ∧ w'.cell? ⟨B, 6, none⟩ = some (.slice xda xnd xdc)) ∧ (w'.cell? ⟨C, 0, none⟩ = some (.slice yla ynl ylc) ∧ w'.cell? ⟨C, 1, none⟩ = some (.int .i64 y0) ∧ w'.cell? ⟨C, 2, none⟩ = some (.int .i64 y1) ∧ w'.cell? ⟨C, 3, none⟩ = some (.int .i64 y2) ∧ w'.cell? ⟨C, 4, none⟩ = some (.int .i64 y3) ∧ w'.cell? ⟨C, 5, none⟩ = some (.slice yra ynr yrc) ∧ w'.cell? ⟨C, 6, none⟩ = some (.slice yda ynd ydc)))) (
    first
    | with_reducible exact HK.out _ (Below.refl _ _)
    | with_reducible exact HK.out _ hX0
    | with_reducible exact HK.out _ k1
    | with_reducible exact HK.out _ k2
    | with_reducible exact HK.out _ k3
    | with_reducible exact HK.out _ k4
    | with_reducible exact HK.out _ k5
    | with_reducible exact HK.out _ k6
    | with_reducible exact HK.out _ k7) (
    first
    | (go_at_call 14; refine (HT.out _ _ _ aT aR nT nR cT cR hoT hoR).mono ?_; rintro e y7 ⟨rfl, j7⟩; have k7 : Below V.heap.size V y7 := k6.trans (j7.mono k6.size); clear j7)
    | (go_at_call 16; refine (HL6.out _ k5).mono ?_; rintro e y6 ⟨aR, nR, cR, rfl, hoR, j6⟩; have k6 : Below V.heap.size V y6 := k5.trans (j6.mono k5.size); replace hoT := hoT.below j6 (Nat.le_refl _); clear j6)
    | (go_at_call 15; refine (HL5.out _ k4).mono ?_; rintro e y5 ⟨aT, nT, cT, rfl, hoT, j5⟩; have k5 : Below V.heap.size V y5 := k4.trans (j5.mono k4.size); clear j5)
    | (go_at_call 14; refine (HL4.out _ k3).mono ?_; rintro e y4 ⟨rfl, j4⟩; have k4 : Below V.heap.size V y4 := k3.trans (j4.mono k3.size); clear j4)
    | (go_at_call 13; refine (HL3.out _ k2).mono ?_; rintro e y3 ⟨rfl, j3⟩; have k3 : Below V.heap.size V y3 := k2.trans (j3.mono k2.size); clear j3)
    | (go_at_call 12; refine (HL2.out _ k1).mono ?_; rintro e y2 ⟨rfl, j2⟩; have k2 : Below V.heap.size V y2 := k1.trans (j2.mono k1.size); clear j2)
    | (go_at_call 11; refine (HL1.out _ hX0).mono ?_; rintro e y1 ⟨rfl, j1⟩; have k1 : Below V.heap.size V y1 := hX0.trans (j1.mono hX0.size); clear j1))
  all_goals
    have hBf : Below w.heap.size w y7 := HV.out.trans (k7.mono HV.out.size)
    clear k1 k2 k3 k4 k5 k6 k7 hoT hoR HK
    go_wp2
    go_ret
    exact ⟨rfl, hBf⟩

end Go.Proofs.Ytikmnaegalmfeaa
