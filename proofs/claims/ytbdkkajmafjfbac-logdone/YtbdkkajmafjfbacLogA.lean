/- The statements' closed fact about package log, asked of the program: it comes out true. -/
import Derived.Test.YtbdkkajmafjfbacLog6
import Derived.Test.YtbdkkajmafjfbacLog7
import Derived.Test.YtbdkkajmafjfbacLog8
namespace Go.Proofs.Ytbdkkajmafjfbac
open Go.RowKit
attribute [local go_sem ↓] Go.wp_at_zero Go.wp_at_succ

theorem HouseO.parts {w : World} {v : Value} {L : List R3} {h : H3} (hh : HouseO w v L h) : ∃ (la : Option Addr) (nl lc : Nat) (Y : List XL) (ra : Option Addr) (nr rc : Nat) (da : Option Addr) (nd dc : Nat),
    v = .agg #[.slice la nl lc, .int .i64 h.1.1, .int .i64 h.1.2.1, .int .i64 h.1.2.2.1, .int .i64 h.1.2.2.2, .slice ra nr rc, .slice da nd dc] ∧ nl = L.length ∧ Y.map stripL = L ∧ RecsAt w la Y ∧ nr = h.2.1.length ∧ nd = h.2.2.length := by
  obtain ⟨la, nl, lc, Y, ra, nr, rc, XR, da, nd, dc, hv, ⟨h1, h2, h3⟩, ⟨h4, h5, h6⟩, h7, h8, h9, h10⟩ := hh.at
  exact ⟨la, nl, lc, Y, ra, nr, rc, da, nd, dc, hv, h1, h2, h3, by rw [h4, ← h5, List.length_map], h7⟩
abbrev p15 : List P3 := [(0, 1, 5)]
theorem ok15 : OkP p15 := ⟨by decide, by intro p hp; simp at hp; subst hp; decide, by intro p hp; simp at hp; subst hp; decide⟩
theorem okL_two {k1 d1 k2 d2 : Int} {l1 l2 : List P3} (h1 : OkP l1) (h2 : OkP l2) : OkL [(k1, d1, l1), (k2, d2, l2)] := by
  intro r hr
  simp at hr
  rcases hr with rfl | rfl
  · exact h1
  · exact h2
theorem okL_one {k1 d1 : Int} {l1 : List P3} (h1 : OkP l1) : OkL [(k1, d1, l1)] := by
  intro r hr
  simp at hr
  subst hr
  exact h1

abbrev X2 (w : World) : List XL := [(4, 0, (none, 0), []), (5, 70, (some ⟨w.heap.size, 0, none⟩, 1), p15)]

set_option maxRecDepth 20000 in
set_option maxHeartbeats 1000000 in
theorem alive_any (w : World) :
    Calls Try.prog 5 #[] w fun e w' => e = .returned (.bool true) ∧ Below w.heap.size w w' := by
  have hp0 : Blk (w.alloc (.cells #[.int .i64 0, .int .i64 1, .int .i64 5] 38)) w.heap.size #[.int .i64 0, .int .i64 1, .int .i64 5] 38 := Blk.new _ _ _
  have hb0 := below1 w (.cells #[.int .i64 0, .int .i64 1, .int .i64 5] 38)
  go_enter Try.func5, Try.ntmps5
  go_wp2_with fail
  generalize w.alloc (.cells #[.int .i64 0, .int .i64 1, .int .i64 5] 38) = W1 at *
  have hpa : PartsAt W1 (some ⟨w.heap.size, 0, none⟩) p15 := Or.inr ⟨w.heap.size, 0, rfl, hp0.lt, fun i hi => by
    have h0 : i = 0 := by simpa using hi
    subst h0
    exact ⟨hp0.cell 0, hp0.cell 1, hp0.cell 2⟩⟩
  refine (house_any none [] 0 0 W1 rfl (by decide) (fun r hr => by cases hr) ⟨Or.inl rfl, fun x hx => by cases hx⟩).mono ?_
  rintro e w2 ⟨v2, rfl, hh2, hb2⟩
  have hhA : houseB (([] : List XL).map stripL) = ((0, 0, 0, 0), [], []) := rfl
  rw [hhA] at hh2
  obtain ⟨la, nl, lc, Y, ra, nr, rc, da, nd, dc, rfl, hnl, hY, hrec, hnr, hnd⟩ := hh2.parts
  clear hnr hnd
  have hY0 : Y = [] := by simpa using hY
  subst hY0
  have hbw2 : Below w.heap.size w w2 := hb0.trans (hb2.mono hb0.size)
  have HP2 : Hid (PartsAt w2 (some ⟨w.heap.size, 0, none⟩) p15 ∧ RecsAt w2 la [] ∧ nl = ([] : List XL).length) := ⟨hpa.below hb2, hrec, hnl⟩
  clear hhA hh2 hY hrec hpa hp0 hb0 hb2 hnl
  go_wp2_with fail
  have HNT := note_any la ra da nl lc nr rc nd dc 0 0 0 0 [] (1, 70, (some ⟨w.heap.size, 0, none⟩, 1), p15) w2 HP2.out.2.2 (by decide) (okL_one ok15) HP2.out.2.1 HP2.out.1
  have hmap : ([] ++ [((1, 70, (some ⟨w.heap.size, 0, none⟩, 1), p15) : XL)]).map stripL = [(1, 70, p15)] := rfl
  rw [hmap] at HNT
  have hhB : houseB [(1, 70, p15)] = ((0, 0, 0, 0), [(70, p15)], []) := rfl
  rw [hhB] at HNT
  clear hmap hhB
  simp only [p15, List.length_cons, List.length_nil, Nat.zero_add] at HNT
  refine HNT.mono ?_
  clear HNT
  rintro e w3 ⟨v3, rfl, hh3, hb3⟩
  obtain ⟨la3, nl3, lc3, Y3, ra3, nr3, rc3, da3, nd3, dc3, rfl, hnl3, hY3, hrec3, hnr3, hnd3⟩ := hh3.parts
  clear hnr3 hnd3
  have hYl : Y3.length = 1 := by have := congrArg List.length hY3; simpa using this
  have HP3 : Hid (PartsAt w3 (some ⟨w.heap.size, 0, none⟩) p15 ∧ RecsAt w3 la3 Y3 ∧ nl3 = Y3.length ∧ Y3.map stripL = [(1, 70, p15)] ∧ Y3.length = 1) := ⟨HP2.out.1.below hb3, hrec3, by rw [hnl3, hYl]; rfl, hY3, hYl⟩
  have hbw3 : Below w.heap.size w w3 := hbw2.trans (hb3.mono hbw2.size)
  clear hh3 hnl3 hY3 hrec3 hYl hb3 HP2 hbw2
  go_wp2_with fail
  have hmap : (Y3 ++ [((2, 70, (none, 0), []) : XL)]).map stripL = [(1, 70, p15), (2, 70, [])] := by rw [List.map_append, HP3.out.2.2.2.1]; rfl
  have HNT := note_any la3 ra3 da3 nl3 lc3 nr3 rc3 nd3 dc3 0 0 0 0 Y3 (2, 70, (none, 0), []) w3 HP3.out.2.2.1 (by rw [HP3.out.2.2.2.2]; decide) (by rw [hmap]; exact okL_two ok15 okP_nil) HP3.out.2.1 (Or.inl rfl)
  rw [hmap] at HNT
  clear hmap
  simp only [List.length_nil] at HNT
  refine HNT.mono ?_
  rintro e w4 ⟨v4, rfl, hh4, hb4⟩
  have hhB : houseB [(1, 70, p15), (2, 70, [])] = ((0, 5, 0, 0), [], [70]) := rfl
  rw [hhB] at hh4
  obtain ⟨la4, nl4, lc4, Y4, ra4, nr4, rc4, da4, nd4, dc4, rfl, hnl4, _, _, hnr4, hnd4⟩ := hh4.parts
  have e1 : nl4 = 2 := hnl4
  have e2 : nr4 = 0 := hnr4
  have e3 : nd4 = 1 := hnd4
  subst e1 e2 e3
  have hbw4 : Below w.heap.size w w4 := hbw3.trans (hb4.mono hbw3.size)
  have HP4 : Hid (PartsAt w4 (some ⟨w.heap.size, 0, none⟩) p15) := HP3.out.1.below hb4
  clear HNT hh4 hhB hnl4 hnr4 hnd4 hb4 HP3 hbw3
  simp only
  go_wp2_with fail
  have hb6 := below2 w4 (.cells #[.slice la4 2 lc4, .int .i64 0, .int .i64 5, .int .i64 0, .int .i64 0, .slice ra4 0 rc4, .slice da4 1 dc4] 32) (.cells #[.int .i64 4, .int .i64 0, .slice none 0 0, .int .i64 5, .int .i64 70, .slice (some ⟨w.heap.size, 0, none⟩) 1 1] 25)
  have hr6 : Blk ((w4.alloc (.cells #[.slice la4 2 lc4, .int .i64 0, .int .i64 5, .int .i64 0, .int .i64 0, .slice ra4 0 rc4, .slice da4 1 dc4] 32)).alloc (.cells #[.int .i64 4, .int .i64 0, .slice none 0 0, .int .i64 5, .int .i64 70, .slice (some ⟨w.heap.size, 0, none⟩) 1 1] 25)) (w4.heap.size + 1) #[.int .i64 4, .int .i64 0, .slice none 0 0, .int .i64 5, .int .i64 70, .slice (some ⟨w.heap.size, 0, none⟩) 1 1] 25 := heap2 _ _ _
  have hh6 : Blk ((w4.alloc (.cells #[.slice la4 2 lc4, .int .i64 0, .int .i64 5, .int .i64 0, .int .i64 0, .slice ra4 0 rc4, .slice da4 1 dc4] 32)).alloc (.cells #[.int .i64 4, .int .i64 0, .slice none 0 0, .int .i64 5, .int .i64 70, .slice (some ⟨w.heap.size, 0, none⟩) 1 1] 25)) w4.heap.size #[.slice la4 2 lc4, .int .i64 0, .int .i64 5, .int .i64 0, .int .i64 0, .slice ra4 0 rc4, .slice da4 1 dc4] 32 := (Blk.new _ _ _).alloc _
  generalize (w4.alloc (.cells #[.slice la4 2 lc4, .int .i64 0, .int .i64 5, .int .i64 0, .int .i64 0, .slice ra4 0 rc4, .slice da4 1 dc4] 32)).alloc (.cells #[.int .i64 4, .int .i64 0, .slice none 0 0, .int .i64 5, .int .i64 70, .slice (some ⟨w.heap.size, 0, none⟩) 1 1] 25) = W6 at *
  have hx6 : RecsAt W6 (some ⟨w4.heap.size + 1, 0, none⟩) (X2 w) := by
    have q := HP4.out.below hb6
    refine ⟨Or.inr ⟨w4.heap.size + 1, 0, rfl, hr6.lt, fun i hi j u hu => ?_⟩, fun x hx => ?_⟩
    · match i, hi, j, hu with
      | 0, _, 0, hu => exact (hr6.cell 0).trans hu
      | 0, _, 1, hu => exact (hr6.cell 1).trans hu
      | 0, _, 2, hu => exact (hr6.cell 2).trans hu
      | 0, _, j + 3, hu => simp [X2, encL] at hu
      | 1, _, 0, hu => exact (hr6.cell 3).trans hu
      | 1, _, 1, hu => exact (hr6.cell 4).trans hu
      | 1, _, 2, hu => exact (hr6.cell 5).trans hu
      | 1, _, j + 3, hu => simp [X2, encL] at hu
    · simp only [X2, List.mem_cons, List.not_mem_nil, or_false] at hx
      rcases hx with rfl | rfl
      · exact Or.inl rfl
      · exact q
  have hbw6 : Below w.heap.size w W6 := hbw4.trans (hb6.mono hbw4.size)
  have hok6 : OkL ((X2 w).map stripL) := okL_two okP_nil ok15
  clear hr6 hb6 HP4 hbw4
  refine (head_any (some ⟨w4.heap.size + 1, 0, none⟩) (X2 w) 2 2 W6 rfl (by simp) hok6 hx6).mono ?_
  rintro e w7 ⟨v7, rfl, hh7, hb7⟩
  have hhB : headB ((X2 w).map stripL) = (1, [(70, p15)]) := rfl
  rw [hhB] at hh7
  obtain ⟨la7, nl7, lc7, Y7, oa, no, oc, XO, rfl, ⟨hnl7, _, _⟩, hno, hXO, hop⟩ := hh7
  have e6 : nl7 = 2 := hnl7
  subst e6
  have hXl : XO.length = 1 := by have := congrArg List.length hXO; simpa using this
  obtain ⟨ob, oo, rfl, hob, g0, g1, od, g3, g4⟩ := hop.get (k := 0) (by omega)
  clear g0 g1 g3 g4
  have e7 : no = 1 := hno.trans hXl
  subst e7
  have hx7 : Hid (RecsAt w7 (some ⟨w4.heap.size + 1, 0, none⟩) (X2 w) ∧ OkL ((X2 w).map stripL)) := ⟨hx6.below hb7, hok6⟩
  have hbw7 : Below w.heap.size w w7 := hbw6.trans (hb7.mono hbw6.size)
  have hh7' := hh6.below hb7 hh6.lt
  have q0 := hh7'.cell 0
  have q2 := hh7'.cell 2
  have q5 := hh7'.cell 5
  have q6 := hh7'.cell 6
  have hlt7 := hh7'.lt
  simp at q0 q2 q5 q6
  simp only [Nat.zero_mul, Nat.add_zero] at od
  clear hhB hno hXO hop hXl hx6 hok6 hb7 hbw6 hh6 hh7'
  simp only
  go_wp2_with fail
  have HD := decided_any (some ⟨w4.heap.size + 1, 0, none⟩) (X2 w) 2 2 (w7.alloc (.cells #[.slice la7 2 lc7, .int .i64 1, .int .i64 0, .slice (some ⟨ob, oo, none⟩) 1 oc] 45)) rfl (by simp) hx7.out.2 (hx7.out.1.below (below1 _ _))
  have hbw8 : Below w.heap.size w (w7.alloc (.cells #[.slice la7 2 lc7, .int .i64 1, .int .i64 0, .slice (some ⟨ob, oo, none⟩) 1 oc] 45)) := hbw7.trans ((below1 _ _).mono hbw7.size)
  have hx8 : Hid (RecsAt (w7.alloc (.cells #[.slice la7 2 lc7, .int .i64 1, .int .i64 0, .slice (some ⟨ob, oo, none⟩) 1 oc] 45)) (some ⟨w4.heap.size + 1, 0, none⟩) (X2 w)) := hx7.out.1.below (below1 _ _)
  generalize w7.alloc (.cells #[.slice la7 2 lc7, .int .i64 1, .int .i64 0, .slice (some ⟨ob, oo, none⟩) 1 oc] 45) = W8 at *
  refine HD.mono ?_
  rintro e w9 ⟨a9, n9, c9, Z9, rfl, hn9, hZ9, _, hb9⟩
  have e9 : n9 = 1 := by
    have h1 := congrArg List.length hZ9
    rw [List.length_map] at h1
    rw [hn9, h1]
    rfl
  subst e9
  have HO := own_any (some ⟨w4.heap.size + 1, 0, none⟩) (X2 w) 2 2 w9 rfl (by simp) hx7.out.2 (hx8.out.below hb9)
  have hbw9 : Below w.heap.size w w9 := hbw8.trans (hb9.mono hbw8.size)
  clear HD hZ9 hn9 hb9 hbw8 hx8 hbw7 q0 q2 q5 q6 od
  go_wp2_with fail
  refine HO.mono ?_
  rintro e w10 ⟨a10, c10, Y10, rfl, _, _, hb10⟩
  have hbw10 : Below w.heap.size w w10 := hbw9.trans (hb10.mono hbw9.size)
  clear HO hb10 hbw9
  go_wp2
  go_ret
  exact ⟨rfl, hbw10⟩

end Go.Proofs.Ytbdkkajmafjfbac
