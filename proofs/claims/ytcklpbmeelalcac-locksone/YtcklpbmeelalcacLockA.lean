/- The statements' closed fact about package locks, asked of the program: it comes out true. -/
import Derived.Test.YtcklpbmeelalcacLockW
namespace Go.Proofs.Ytcklpbmeelalcac
open Go.RowKit
attribute [local go_sem ↓] Go.wp_at_zero Go.wp_at_succ

abbrev pK : List P3 := [(0, 1, 5)]
theorem okK : OkL [(1, 70, pK)] := by
  intro r hr
  simp at hr
  subst hr
  exact ⟨by decide, by intro p hp; simp at hp; subst hp; decide, by intro p hp; simp at hp; subst hp; decide⟩
theorem invK : HInv 1 ((0, 0, 0, 0), [(70, pK)], []) := houseB_inv (L := [(1, 70, pK)]) okK
theorem partsOne {w : World} {b : Nat} {h k n : Int} {t : TypeId} (hb : Blk w b #[.int .i64 h, .int .i64 k, .int .i64 n] t) : PartsAt w (some ⟨b, 0, none⟩) [(h, k, n)] := Or.inr ⟨b, 0, rfl, hb.lt, fun i hi => by
    have h0 : i = 0 := by simpa using hi
    subst h0
    exact ⟨hb.cell 0, hb.cell 1, hb.cell 2⟩⟩

set_option maxRecDepth 20000 in
set_option maxHeartbeats 2000000 in
theorem aliveK_any (w : World) :
    Calls Try.prog 17 #[] w fun e w' => e = .returned (.bool true) ∧ Below w.heap.size w w' := by
  have hp0 : Blk ((w.alloc (.cells #[.int .i64 0, .int .i64 1, .int .i64 5] 38)).alloc (.cells #[.int .i64 1, .int .i64 70, .slice (some ⟨w.heap.size, 0, none⟩) 1 1] 25)) w.heap.size #[.int .i64 0, .int .i64 1, .int .i64 5] 38 := (Blk.new _ _ _).alloc _
  have hr0 : Blk ((w.alloc (.cells #[.int .i64 0, .int .i64 1, .int .i64 5] 38)).alloc (.cells #[.int .i64 1, .int .i64 70, .slice (some ⟨w.heap.size, 0, none⟩) 1 1] 25)) (w.heap.size + 1) #[.int .i64 1, .int .i64 70, .slice (some ⟨w.heap.size, 0, none⟩) 1 1] 25 := heap2 _ _ _
  have hb0 := below2 w (.cells #[.int .i64 0, .int .i64 1, .int .i64 5] 38) (.cells #[.int .i64 1, .int .i64 70, .slice (some ⟨w.heap.size, 0, none⟩) 1 1] 25)
  go_enter Try.func17, Try.ntmps17
  go_wp2_with fail
  generalize (w.alloc (.cells #[.int .i64 0, .int .i64 1, .int .i64 5] 38)).alloc (.cells #[.int .i64 1, .int .i64 70, .slice (some ⟨w.heap.size, 0, none⟩) 1 1] 25) = W1 at *
  have hx1 : RecsAt W1 (some ⟨w.heap.size + 1, 0, none⟩) [(1, 70, (some ⟨w.heap.size, 0, none⟩, 1), pK)] := ⟨RowAt.one hr0 (by simp [encL]), fun y hy => by rw [List.mem_singleton.1 hy]; exact partsOne hp0⟩
  refine (refHouse_any (some ⟨w.heap.size + 1, 0, none⟩) [(1, 70, (some ⟨w.heap.size, 0, none⟩, 1), pK)] 1 1 W1 rfl (CalcL.of okK (by simp)) hx1).mono ?_
  rintro e w2 ⟨v2, rfl, hh2, hb2⟩
  have hhA : houseB ([((1, 70, (some ⟨w.heap.size, 0, none⟩, 1), pK) : XL)].map stripL) = ((0, 0, 0, 0), [(70, pK)], []) := rfl
  rw [hhA] at hh2
  obtain ⟨la, nl, lc, ra, nr, rc, XR, da, nd, dc, rfl, hr2⟩ := hh2.open invK (by decide)
  have hbw2 : Below w.heap.size w w2 := hb0.trans (hb2.mono hb0.size)
  have hp2 := hp0.below hb2 hp0.lt
  simp only at hr2 ⊢
  clear hhA hh2 hx1 hr0 hp0 hb0 hb2
  go_wp2_with fail
  have hb3 := below1 w2 (.cells #[.slice la nl lc, .int .i64 0, .int .i64 0, .int .i64 0, .int .i64 0, .slice ra nr rc, .slice da nd dc] 32)
  have hh3 : Blk (w2.alloc (.cells #[.slice la nl lc, .int .i64 0, .int .i64 0, .int .i64 0, .int .i64 0, .slice ra nr rc, .slice da nd dc] 32)) w2.heap.size #[.slice la nl lc, .int .i64 0, .int .i64 0, .int .i64 0, .int .i64 0, .slice ra nr rc, .slice da nd dc] 32 := Blk.new _ _ _
  have HR : Hid (RdyAt (w2.alloc (.cells #[.slice la nl lc, .int .i64 0, .int .i64 0, .int .i64 0, .int .i64 0, .slice ra nr rc, .slice da nd dc] 32)) ra nr XR [(70, pK)] ∧ Below w.heap.size w (w2.alloc (.cells #[.slice la nl lc, .int .i64 0, .int .i64 0, .int .i64 0, .int .i64 0, .slice ra nr rc, .slice da nd dc] 32)) ∧ PartsAt (w2.alloc (.cells #[.slice la nl lc, .int .i64 0, .int .i64 0, .int .i64 0, .int .i64 0, .slice ra nr rc, .slice da nd dc] 32)) (some ⟨w.heap.size, 0, none⟩) pK) := ⟨hr2.below hb3, hbw2.trans (hb3.mono hbw2.size), partsOne (hp2.below hb3 hp2.lt)⟩
  clear hr2 hbw2 hp2 hb3
  generalize w2.alloc (.cells #[.slice la nl lc, .int .i64 0, .int .i64 0, .int .i64 0, .int .i64 0, .slice ra nr rc, .slice da nd dc] 32) = V at *
  have HH : Hid (∀ w', Below V.heap.size V w' → Blk w' w2.heap.size #[.slice la nl lc, .int .i64 0, .int .i64 0, .int .i64 0, .int .i64 0, .slice ra nr rc, .slice da nd dc] 32) := fun w' hb => hh3.below hb hh3.lt
  have hv := hh3.lt
  clear hh3
  refine (whoR_any la ra da nl lc nr rc nd dc 0 0 0 0 1 XR [(70, pK)] V HR.out.1).mono ?_
  rintro e w3 ⟨rfl, hb3⟩
  have e3 : whoB [(70, pK)] 1 = 70 := rfl
  rw [e3]
  have hh := HH.out _ hb3
  have q0 := hh.cell 0
  have q1 := hh.cell 1
  have q2 := hh.cell 2
  have q3 := hh.cell 3
  have q4 := hh.cell 4
  have q5 := hh.cell 5
  have q6 := hh.cell 6
  have hql := hh.lt
  simp at q0 q1 q2 q3 q4 q5 q6
  clear e3 hh
  go_wp2_with fail
  refine (whoR_any la ra da nl lc nr rc nd dc 0 0 0 0 2 XR [(70, pK)] w3 (HR.out.1.below hb3)).mono ?_
  rintro e w4 ⟨rfl, hb4⟩
  have e4 : whoB [(70, pK)] 2 = -1 := rfl
  rw [e4]
  have hB4 : Below V.heap.size V w4 := hb3.trans (hb4.mono hb3.size)
  clear e4 q0 q1 q2 q3 q4 q5 q6 hql hb3 hb4
  have hh := HH.out _ hB4
  have q0 := hh.cell 0
  have q1 := hh.cell 1
  have q2 := hh.cell 2
  have q3 := hh.cell 3
  have q4 := hh.cell 4
  have q5 := hh.cell 5
  have q6 := hh.cell 6
  have hql := hh.lt
  simp at q0 q1 q2 q3 q4 q5 q6
  clear hh
  go_wp2_with fail
  refine (freeR_any la ra da (some ⟨w.heap.size, 0, none⟩) nl lc nr rc nd dc 1 1 0 0 0 0 XR [(70, pK)] pK w4 (HR.out.1.below hB4) rfl (by decide) (HR.out.2.2.below hB4)).mono ?_
  rintro e w5 ⟨rfl, hb5⟩
  have e5 : freeB [(70, pK)] pK = false := rfl
  rw [e5]
  have hB5 : Below V.heap.size V w5 := hB4.trans (hb5.mono hB4.size)
  clear e5 q0 q1 q2 q3 q4 q5 q6 hql hb5 hB4
  have hh := HH.out _ hB5
  have q0 := hh.cell 0
  have q1 := hh.cell 1
  have q2 := hh.cell 2
  have q3 := hh.cell 3
  have q4 := hh.cell 4
  have q5 := hh.cell 5
  have q6 := hh.cell 6
  have hql := hh.lt
  simp at q0 q1 q2 q3 q4 q5 q6
  clear hh
  go_wp2_with fail
  have hb6 := below1 w5 (.cells #[.int .i64 0, .int .i64 2, .int .i64 0] 38)
  have hB6 : Below V.heap.size V (w5.alloc (.cells #[.int .i64 0, .int .i64 2, .int .i64 0] 38)) := hB5.trans (hb6.mono hB5.size)
  refine (freeR_any la ra da (some ⟨w5.heap.size, 0, none⟩) nl lc nr rc nd dc 1 1 0 0 0 0 XR [(70, pK)] [(0, 2, 0)] _ (HR.out.1.below hB6) rfl (by decide) (partsOne (Blk.new w5 _ _))).mono ?_
  rintro e w7 ⟨rfl, hb7⟩
  have e7 : freeB [(70, pK)] [(0, 2, 0)] = true := rfl
  rw [e7]
  have hB7 : Below w.heap.size w w7 := HR.out.2.1.trans ((hB6.trans (hb7.mono hB6.size)).mono HR.out.2.1.size)
  clear e7 q0 q1 q2 q3 q4 q5 q6 hql hb6 hB6 hb7 hB5
  go_wp2
  go_ret
  exact ⟨rfl, hB7⟩

end Go.Proofs.Ytcklpbmeelalcac
