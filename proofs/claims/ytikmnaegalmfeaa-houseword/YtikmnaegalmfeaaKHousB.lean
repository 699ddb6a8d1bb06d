/- The statements' closed fact about package house, asked of the program: it comes out true. -/
import Derived.Test.YtikmnaegalmfeaaKHousA
namespace Go.Proofs.Ytikmnaegalmfeaa
open Go.RowKit
attribute [local go_sem ↓] Go.wp_at_zero Go.wp_at_succ

abbrev pA : List P3 := [(0, 1, 5)]
abbrev LA1 : List R3 := [(1, 70, pA)]
abbrev LA2 : List R3 := [(1, 70, pA), (2, 70, [])]
theorem okA : OkP pA := ⟨by decide, by intro p hp; simp at hp; subst hp; decide, by intro p hp; simp at hp; subst hp; decide⟩
theorem okA1 : OkL LA1 := by intro r hr; simp at hr; subst hr; exact okA
theorem okA2 : OkL LA2 := by
  intro r hr
  simp at hr
  rcases hr with rfl | rfl
  · exact okA
  · exact okP_nil
theorem houseA1 : houseB LA1 = ((0, 0, 0, 0), [(70, pA)], []) := by decide
theorem houseA2 : houseB LA2 = ((0, 5, 0, 0), [], [70]) := by decide
theorem invA1 : HInv 1 (houseB LA1) := houseB_inv okA1
theorem invA2 : HInv 2 (houseB LA2) := houseB_inv okA2
theorem hearA1 : hearR (houseB []) 1 70 pA = some (1, 70, pA) ∧ hearL [] 1 70 pA = LA1 ∧ hearM [] 0 1 70 pA = [(2, 70, 0, [])] := ⟨rfl, rfl, rfl⟩
theorem hearA2 : hearR (houseB LA1) 4 70 [] = some (2, 70, []) ∧ hearL LA1 4 70 [] = LA2 ∧ hearM LA1 0 4 70 [] = [(6, 70, 0, [])] := ⟨rfl, rfl, rfl⟩
theorem partsOneA {w : World} {b : Nat} {h k n : Int} {t : TypeId} (hb : Blk w b #[.int .i64 h, .int .i64 k, .int .i64 n] t) : PartsAt w (some ⟨b, 0, none⟩) [(h, k, n)] := Or.inr ⟨b, 0, rfl, hb.lt, fun i hi => by
    have h0 : i = 0 := by simpa using hi
    subst h0
    exact ⟨hb.cell 0, hb.cell 1, hb.cell 2⟩⟩

set_option maxRecDepth 20000 in
set_option maxHeartbeats 4000000 in
theorem alive7_any (w : World) :
    Calls Try.prog 17 #[] w fun e w' => e = .returned (.bool true) ∧ Below w.heap.size w w' := by
  have hp0 : Blk ((w.alloc (.cells #[.int .i64 0, .int .i64 1, .int .i64 5] 45)).alloc (.cells #[.int .i64 1, .int .i64 70, .int .i64 0, .slice (some ⟨w.heap.size, 0, none⟩) 1 1] 25)) w.heap.size #[.int .i64 0, .int .i64 1, .int .i64 5] 45 := (Blk.new _ _ _).alloc _
  have hb0 := below2 w (.cells #[.int .i64 0, .int .i64 1, .int .i64 5] 45) (.cells #[.int .i64 1, .int .i64 70, .int .i64 0, .slice (some ⟨w.heap.size, 0, none⟩) 1 1] 25)
  go_enter Try.func17, Try.ntmps17
  go_wp2_with fail
  generalize (w.alloc (.cells #[.int .i64 0, .int .i64 1, .int .i64 5] 45)).alloc (.cells #[.int .i64 1, .int .i64 70, .int .i64 0, .slice (some ⟨w.heap.size, 0, none⟩) 1 1] 25) = W at *
  have hC1 : ∀ r, hearR (houseB []) 1 70 pA = some r → CalcL ([] ++ [r]) := fun r hr => by
    rw [hearA1.1] at hr
    cases hr
    exact CalcL.of okA1 (by decide)
  refine (hear_any _ [] 0 1 70 0 (some ⟨w.heap.size, 0, none⟩) 1 1 pA W (houseAt_nil W).u rfl (partsOneA hp0) okA (CalcL.of (fun r hr => by cases hr) (by decide)) (fun x hx => by cases hx) hC1).mono ?_
  rintro e w1 ⟨v1, sa, sn, sc, rfl, hh1, ho1, hb1⟩
  rw [hearA1.2.1] at hh1
  rw [hearA1.2.2] at ho1
  obtain ⟨rfl, g1, o1, rfl, hg1, c1⟩ := ho1.one
  have hB1 : Below w.heap.size w w1 := hb0.trans (hb1.mono hb0.size)
  obtain ⟨la, nl, lc, ra, nr, rc, XR, da, nd, dc, rfl, hr1, hn1, hd1⟩ := hh1.at.all invA1 (by decide)
  have HV1 : Hid (HouseAt w1 (.agg #[.slice la nl lc, .int .i64 (houseB LA1).1.1, .int .i64 (houseB LA1).1.2.1, .int .i64 (houseB LA1).1.2.2.1, .int .i64 (houseB LA1).1.2.2.2, .slice ra nr rc, .slice da nd dc]) LA1 (houseB LA1) ∧ RdyAt w1 ra nr XR (houseB LA1).2.1 ∧ Below w.heap.size w w1) := ⟨hh1.at, hr1, hB1⟩
  rw [show (houseB LA1).1.1 = 0 by rw [houseA1], show (houseB LA1).1.2.1 = 0 by rw [houseA1], show (houseB LA1).1.2.2.1 = 0 by rw [houseA1], show (houseB LA1).1.2.2.2 = 0 by rw [houseA1]] at HV1 ⊢
  have hnr : nr = 1 := by
    have h1 := hr1.n
    have h2 := congrArg List.length hr1.says
    rw [List.length_map, houseA1] at h2
    simp at h2
    omega
  subst hnr
  simp only [msgX] at c1
  clear hh1 ho1 hr1 hn1 hd1 hp0 hb0 hb1 hB1 hC1
  go_wp2_with fail
  have hb2 := below1 w1 (.cells #[.slice la nl lc, .int .i64 0, .int .i64 0, .int .i64 0, .int .i64 0, .slice ra 1 rc, .slice da nd dc] 31)
  have hh2 : Blk (w1.alloc (.cells #[.slice la nl lc, .int .i64 0, .int .i64 0, .int .i64 0, .int .i64 0, .slice ra 1 rc, .slice da nd dc] 31)) w1.heap.size #[.slice la nl lc, .int .i64 0, .int .i64 0, .int .i64 0, .int .i64 0, .slice ra 1 rc, .slice da nd dc] 31 := Blk.new _ _ _
  have c2 := (hb2.cell (p := ⟨g1, o1, none⟩) hg1).trans c1
  have HV2 : Hid (HouseAt (w1.alloc (.cells #[.slice la nl lc, .int .i64 0, .int .i64 0, .int .i64 0, .int .i64 0, .slice ra 1 rc, .slice da nd dc] 31)) (.agg #[.slice la nl lc, .int .i64 0, .int .i64 0, .int .i64 0, .int .i64 0, .slice ra 1 rc, .slice da nd dc]) LA1 (houseB LA1) ∧ RdyAt (w1.alloc (.cells #[.slice la nl lc, .int .i64 0, .int .i64 0, .int .i64 0, .int .i64 0, .slice ra 1 rc, .slice da nd dc] 31)) ra 1 XR (houseB LA1).2.1 ∧ Below w.heap.size w (w1.alloc (.cells #[.slice la nl lc, .int .i64 0, .int .i64 0, .int .i64 0, .int .i64 0, .slice ra 1 rc, .slice da nd dc] 31))) := ⟨HV1.out.1.below hb2, HV1.out.2.1.below hb2, HV1.out.2.2.trans (hb2.mono HV1.out.2.2.size)⟩
  have hg2 := Nat.lt_of_lt_of_le hg1 hb2.size
  clear HV1 c1 hg1 hb2
  generalize w1.alloc (.cells #[.slice la nl lc, .int .i64 0, .int .i64 0, .int .i64 0, .int .i64 0, .slice ra 1 rc, .slice da nd dc] 31) = V at *
  generalize w1.heap.size = P at *
  have hC2 : ∀ r, hearR (houseB LA1) 4 70 [] = some r → CalcL (LA1 ++ [r]) := fun r hr => by
    rw [hearA2.1] at hr
    cases hr
    exact CalcL.of okA2 (by decide)
  refine (hear_any _ LA1 0 4 70 0 none 0 0 [] V HV2.out.1.u rfl (Or.inl rfl) okP_nil (CalcL.of okA1 (by decide)) (by rw [houseA1]; intro x hx; simp at hx; subst hx; decide) hC2).mono ?_
  rintro e w3 ⟨v3, sa, sn, sc, rfl, hh3, ho3, hb3⟩
  rw [hearA2.2.1] at hh3
  rw [hearA2.2.2] at ho3
  obtain ⟨rfl, g3, o3, rfl, hg3, c3⟩ := ho3.one
  simp only [msgX] at c3
  obtain ⟨lb, ml, ld, rb, mr, rd, XS, db, md, dd, rfl, hr3, hn3, hd3⟩ := hh3.at.all invA2 (by decide)
  have HV3 : Hid (RdyAt w3 rb mr XS (houseB LA2).2.1 ∧ md = (houseB LA2).2.2.length ∧ RowAt 1 encI w3 db (houseB LA2).2.2 ∧ RdyAt w3 ra 1 XR (houseB LA1).2.1 ∧ Below w.heap.size w w3) := ⟨hr3, hn3, hd3, HV2.out.2.1.below hb3, HV2.out.2.2.trans (hb3.mono HV2.out.2.2.size)⟩
  rw [show (houseB LA2).1.1 = 0 by rw [houseA2], show (houseB LA2).1.2.1 = 5 by rw [houseA2], show (houseB LA2).1.2.2.1 = 0 by rw [houseA2], show (houseB LA2).1.2.2.2 = 0 by rw [houseA2]]
  have hh4 := hh2.below hb3 hh2.lt
  have c4 := (hb3.cell (p := ⟨g1, o1, none⟩) hg2).trans c2
  have hg4 := Nat.lt_of_lt_of_le hg2 hb3.size
  have hb5 := below1 w3 (.cells #[.slice lb ml ld, .int .i64 0, .int .i64 5, .int .i64 0, .int .i64 0, .slice rb mr rd, .slice db md dd] 31)
  have HX : Hid (RdyAt (w3.alloc (.cells #[.slice lb ml ld, .int .i64 0, .int .i64 5, .int .i64 0, .int .i64 0, .slice rb mr rd, .slice db md dd] 31)) rb mr XS (houseB LA2).2.1 ∧ md = (houseB LA2).2.2.length ∧ RowAt 1 encI (w3.alloc (.cells #[.slice lb ml ld, .int .i64 0, .int .i64 5, .int .i64 0, .int .i64 0, .slice rb mr rd, .slice db md dd] 31)) db (houseB LA2).2.2 ∧ RdyAt (w3.alloc (.cells #[.slice lb ml ld, .int .i64 0, .int .i64 5, .int .i64 0, .int .i64 0, .slice rb mr rd, .slice db md dd] 31)) ra 1 XR (houseB LA1).2.1 ∧ Below w.heap.size w (w3.alloc (.cells #[.slice lb ml ld, .int .i64 0, .int .i64 5, .int .i64 0, .int .i64 0, .slice rb mr rd, .slice db md dd] 31))) := ⟨HV3.out.1.below hb5, HV3.out.2.1, HV3.out.2.2.1.below hb5, HV3.out.2.2.2.1.below hb5, HV3.out.2.2.2.2.trans (hb5.mono HV3.out.2.2.2.2.size)⟩
  have hh5 := hh4.below hb5 hh4.lt
  have c5 := (hb5.cell (p := ⟨g1, o1, none⟩) hg4).trans c4
  have c6 := (hb5.cell (p := ⟨g3, o3, none⟩) hg3).trans c3
  have hx5 : Blk (w3.alloc (.cells #[.slice lb ml ld, .int .i64 0, .int .i64 5, .int .i64 0, .int .i64 0, .slice rb mr rd, .slice db md dd] 31)) w3.heap.size #[.slice lb ml ld, .int .i64 0, .int .i64 5, .int .i64 0, .int .i64 0, .slice rb mr rd, .slice db md dd] 31 := Blk.new _ _ _
  have hg5 := Nat.lt_of_lt_of_le hg4 hb5.size
  have hg6 := Nat.lt_of_lt_of_le hg3 hb5.size
  clear HV2 HV3 c2 c3 c4 hg2 hg3 hg4 hh2 hh3 ho3 hb3 hr3 hn3 hd3 hh4 hC2 hb5
  obtain ⟨⟨q0, q1, q2, q3, q4, q5, q6⟩, -⟩ := zcells hh5
  obtain ⟨⟨x0, x1, x2, x3, x4, x5, x6⟩, -⟩ := zcells hx5
  have hl5 := hh5.lt
  have hl6 := hx5.lt
  go_wp2_with fail
  clear q0 q1 q2 q3 q4 q5 q6 x0 x1 x2 x3 x4 x5 x6 c5 c6 hl5 hl6 hg5 hg6
  generalize w3.alloc (.cells #[.slice lb ml ld, .int .i64 0, .int .i64 5, .int .i64 0, .int .i64 0, .slice rb mr rd, .slice db md dd] 31) = U at *
  refine (tick_any la ra da nl lc 1 rc nd dc 0 0 0 0 0 XR (houseB LA1).2.1 U HX.out.2.2.2.1 (by have := HX.out.2.2.2.1.n; omega)).mono ?_
  rintro e w6 ⟨a6, n6, c6, rfl, ho6, hb6⟩
  have hn6 : n6 = 1 := by
    have := (ho6.at lenM).2.1
    rw [houseA1] at this
    simpa using this
  subst hn6
  have HX6 : Hid (RdyAt w6 rb mr XS (houseB LA2).2.1 ∧ md = (houseB LA2).2.2.length ∧ RowAt 1 encI w6 db (houseB LA2).2.2 ∧ Below w.heap.size w w6) := ⟨HX.out.1.below hb6, HX.out.2.1, HX.out.2.2.1.below hb6, HX.out.2.2.2.2.trans (hb6.mono HX.out.2.2.2.2.size)⟩
  have hx6 := hx5.below hb6 hx5.lt
  obtain ⟨⟨x0, x1, x2, x3, x4, x5, x6⟩, -⟩ := zcells hx6
  have hl6 := hx6.lt
  clear ho6 hb6 hh5 hx5 HX hx6
  go_wp2_with fail
  refine (vote_any lb rb db none ml ld mr rd md dd 0 0 0 5 0 0 70 XS (houseB LA2).2.1 (houseB LA2).2.2 [] w6 HX6.out.1 HX6.out.2.1 (by rw [houseA2]; decide) HX6.out.2.2.1 rfl okP_nil (Or.inl rfl) (by unfold Within; decide) (by rw [houseA2]; intro x hx; cases hx)).mono ?_
  rw [show voteB ((0, 5, 0, 0), (houseB LA2).2.1, (houseB LA2).2.2) 70 [] = 10 by rw [houseA2]; rfl]
  rintro e w7 ⟨rfl, hb7⟩
  have hB7 : Below w.heap.size w w7 := HX6.out.2.2.2.trans (hb7.mono HX6.out.2.2.2.size)
  clear x0 x1 x2 x3 x4 x5 x6 hb7
  go_wp2
  go_ret
  exact ⟨rfl, hB7⟩

end Go.Proofs.Ytikmnaegalmfeaa
