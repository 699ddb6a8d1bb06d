/- LocksTells, walked: called at whatever log, parts and key it answers true and leaves all older memory as it was. -/
import Derived.Test.YtcklpbmeelalcacLockW
namespace Go.Proofs.Ytcklpbmeelalcac
open Go.RowKit
attribute [local go_sem ↓] Go.wp_at_zero Go.wp_at_succ

set_option maxRecDepth 20000 in
set_option maxHeartbeats 4000000 in
theorem locksTells_any (a : Option Addr) (X : List XL) (cap n : Nat) (pa : Option Addr) (l : List P3) (pc np : Nat) (key : Int) (w : World) (hn : n = X.length) (hl : X.length ≤ 9223372036854775807) (hm : ∀ x ∈ X, x.2.2.2.length ≤ 9223372036854775807) (hp : RecsAt w a X) (hnp : np = l.length) (hlp : l.length ≤ 9223372036854775807) (hq : PartsAt w pa l) :
    Calls Try.prog 5 #[.slice a n cap, .slice pa np pc, .int .i64 key] w fun e w' => e = .returned (.bool true) ∧ Below w.heap.size w w' := by
  have HN : Hid (n = X.length ∧ X.length ≤ 9223372036854775807 ∧ (∀ x ∈ X, x.2.2.2.length ≤ 9223372036854775807) ∧ RecsAt w a X) := ⟨hn, hl, hm, hp⟩
  have HL : Hid (np = l.length ∧ l.length ≤ 9223372036854775807 ∧ PartsAt w pa l) := ⟨hnp, hlp, hq⟩
  have hnp63 : np ≤ 9223372036854775807 := by omega
  clear hn hl hm hp hnp hlp hq
  go_enter Try.func5, Try.ntmps5
  go_wp2_with fail
  refine (rightLog_any a X cap n w HN.out.1 HN.out.2.1 HN.out.2.2.1 HN.out.2.2.2).mono ?_
  rintro e w1 ⟨rfl, hb1⟩
  cases hz1 : rightLog (X.map stripL)
  · go_wp2
    go_ret
    exact ⟨rfl, hb1⟩
  obtain ⟨hok, h60⟩ := rightLog_ok hz1
  rw [List.length_map] at h60
  have HOK : Hid (OkL (X.map stripL) ∧ X.length ≤ 60 ∧ ∀ x ∈ (houseB (X.map stripL)).2.1, 0 ≤ x.1) := ⟨hok, h60, rightLog_pos hz1⟩
  clear hz1 hok h60
  go_wp2_with fail
  refine (refHouse_any a X cap n w1 HN.out.1 (CalcL.of HOK.out.1 (by rw [List.length_map]; have := HOK.out.2.1; omega)) (HN.out.2.2.2.below hb1)).mono ?_
  rintro e w2 ⟨v, rfl, hh2, hb2⟩
  have hbw2 : Below w.heap.size w w2 := hb1.trans (hb2.mono hb1.size)
  obtain ⟨la, nl, lc, ra, nr, rc, XR, da, nd, dc, rfl, hr2⟩ := hh2.open (houseB_inv HOK.out.1) (by rw [List.length_map]; have := HOK.out.2.1; omega)
  have hD := HOK.out.2.2
  generalize houseB (X.map stripL) = h at *
  obtain ⟨⟨s0, s1, s2, s3⟩, D, dn⟩ := h
  simp only at hr2 hD ⊢
  clear hh2 hb1 hb2 HOK
  have hb3 := below1 w2 (.cells #[.slice la nl lc, .int .i64 s0, .int .i64 s1, .int .i64 s2, .int .i64 s3, .slice ra nr rc, .slice da nd dc] 32)
  have hh3 : Blk (w2.alloc (.cells #[.slice la nl lc, .int .i64 s0, .int .i64 s1, .int .i64 s2, .int .i64 s3, .slice ra nr rc, .slice da nd dc] 32)) w2.heap.size #[.slice la nl lc, .int .i64 s0, .int .i64 s1, .int .i64 s2, .int .i64 s3, .slice ra nr rc, .slice da nd dc] 32 := Blk.new _ _ _
  have HR : Hid (RdyAt (w2.alloc (.cells #[.slice la nl lc, .int .i64 s0, .int .i64 s1, .int .i64 s2, .int .i64 s3, .slice ra nr rc, .slice da nd dc] 32)) ra nr XR D ∧ Below w.heap.size w (w2.alloc (.cells #[.slice la nl lc, .int .i64 s0, .int .i64 s1, .int .i64 s2, .int .i64 s3, .slice ra nr rc, .slice da nd dc] 32)) ∧ (∀ k, decide (whoB D k < 0) = !atK D k)) := ⟨hr2.below hb3, hbw2.trans (hb3.mono hbw2.size), whoB_neg hD⟩
  clear hr2 hbw2 hD hb3
  go_wp2
  generalize w2.alloc (.cells #[.slice la nl lc, .int .i64 s0, .int .i64 s1, .int .i64 s2, .int .i64 s3, .slice ra nr rc, .slice da nd dc] 32) = V at *
  go_loopw [8, 18] (fun s8 i w' => ∃ k : Nat, k ≤ np ∧ i = .int .i64 k ∧ s8 = .bool (freeB D (l.take k)) ∧ Below V.heap.size V w') (fun _ i _ => np - (intOf i).toNat)
  case atStart => exact ⟨0, Nat.zero_le _, rfl, rfl, Below.refl _ _⟩
  case round =>
    obtain ⟨k, hk, rfl, rfl, hbV⟩ := hrel
    have hszV := hbV.size
    have hhr := hh3.below hbV hh3.lt
    have hBw : Below w.heap.size w wr := HR.out.2.1.trans (hbV.mono HR.out.2.1.size)
    by_cases hlt : k < np
    · have hkl : k < l.length := by have := HL.out.1; omega
      rcases HL.out.2.2.below hBw with h0 | ⟨g, o, rfl, hg, hc⟩
      · rw [h0] at hkl; simp at hkl
      obtain ⟨e0, e1, e2⟩ := hc k hkl
      have HS : Hid (freeB D (l.take (k + 1)) = (freeB D (l.take k) && decide (whoB D l[k].2.1 < 0))) := by
        show _ = _
        rw [take_snoc hkl, freeB_snoc, HR.out.2.2]
      clear hc
      generalize l[k] = p at *
      obtain ⟨ph, pk, pn⟩ := p
      simp only at e0 e1 e2 HS
      generalize freeB D (l.take k) = fb at *
      have hbA := below1 wr (.cells #[.int .i64 ph, .int .i64 pk, .int .i64 pn] 38)
      have hBA : Below V.heap.size V (wr.alloc (.cells #[.int .i64 ph, .int .i64 pk, .int .i64 pn] 38)) := hbV.trans (hbA.mono hszV)
      have q0 := hhr.cell 0
      have q1 := hhr.cell 1
      have q2 := hhr.cell 2
      have q3 := hhr.cell 3
      have q4 := hhr.cell 4
      have q5 := hhr.cell 5
      have q6 := hhr.cell 6
      have hql := hhr.lt
      simp at q0 q1 q2 q3 q4 q5 q6
      clear hhr hbV
      cases fb
      · have HF : Hid (freeB D (l.take (k + 1)) = false) := by show _ = _; rw [HS.out]; rfl
        clear HS
        go_wp2
        go_roundw
        case rel => exact ⟨k + 1, by omega, by go_num, by rw [HF.out], hBA⟩
        case measure => simp [intOf]; omega
      · have HF : Hid (freeB D (l.take (k + 1)) = decide (whoB D pk < 0)) := by show _ = _; rw [HS.out]; rfl
        clear HS
        go_wp2_with fail
        refine (refWhoR_any la ra da nl lc nr rc nd dc s0 s1 s2 s3 pk XR D _ (HR.out.1.below hBA)).mono ?_
        rintro e w3 ⟨rfl, hb3⟩
        have hB3 : Below V.heap.size V w3 := hBA.trans (hb3.mono hBA.size)
        clear q0 q1 q2 q3 q4 q5 q6 hb3 hBA hbA e0 e1 e2
        generalize whoB D pk = z at *
        go_wp2
        go_roundw
        case rel => exact ⟨k + 1, by omega, by go_num, by rw [HF.out], hB3⟩
        case measure => simp [intOf]; omega
    · have hkn : k = np := by omega
      have hfull : l.take k = l := List.take_of_length_le (by have := HL.out.1; omega)
      rw [hfull]
      clear hfull hlt hhr
      have HK : Hid (∀ w', Below wr.heap.size wr w' → (w'.cell? ⟨w2.heap.size, 0, none⟩ = some (.slice la nl lc) ∧ w'.cell? ⟨w2.heap.size, 1, none⟩ = some (.int .i64 s0) ∧ w'.cell? ⟨w2.heap.size, 2, none⟩ = some (.int .i64 s1) ∧ w'.cell? ⟨w2.heap.size, 3, none⟩ = some (.int .i64 s2) ∧ w'.cell? ⟨w2.heap.size, 4, none⟩ = some (.int .i64 s3) ∧ w'.cell? ⟨w2.heap.size, 5, none⟩ = some (.slice ra nr rc) ∧ w'.cell? ⟨w2.heap.size, 6, none⟩ = some (.slice da nd dc))) := fun w' hb => by
        have h := (hh3.below hbV hh3.lt).below hb (Nat.lt_of_lt_of_le hh3.lt hszV)
        exact ⟨h.cell 0, h.cell 1, h.cell 2, h.cell 3, h.cell 4, h.cell 5, h.cell 6⟩
      have HW : Hid (RdyAt wr ra nr XR D ∧ PartsAt wr pa l) := ⟨HR.out.1.below hbV, HL.out.2.2.below hBw⟩
      have hX0 : Below wr.heap.size wr wr.drew := (Below.refl _ _).drew
      have hlw := Nat.lt_of_lt_of_le hh3.lt hszV
      clear hh3 hbV
      generalize hfb : freeB D l = fb at *
      have HFB : Hid (freeB D l = fb) := hfb
      clear hfb
      generalize hwk : whoB D key = z at *
      have HWK : Hid (whoB D key = z) := hwk
      clear hwk
      have HC1 := fun (W : World) (hW : RdyAt W ra nr XR D) => whoR_any la ra da nl lc nr rc nd dc s0 s1 s2 s3 key XR D W hW
      have HC2 := fun (W : World) (hW : RdyAt W ra nr XR D) => refWhoR_any la ra da nl lc nr rc nd dc s0 s1 s2 s3 key XR D W hW
      have HC3 := fun (W : World) (hW : RdyAt W ra nr XR D) (hq : PartsAt W pa l) => freeR_any la ra da pa nl lc nr rc nd dc np pc s0 s1 s2 s3 XR D l W hW HL.out.1 HL.out.2.1 hq
      rw [HFB.out] at HC3
      rw [HWK.out] at HC1 HC2
      go_wp2_with fail
      go_region_held3 (fun w' => (w'.cell? ⟨w2.heap.size, 0, none⟩ = some (.slice la nl lc) ∧ w'.cell? ⟨w2.heap.size, 1, none⟩ = some (.int .i64 s0) ∧ w'.cell? ⟨w2.heap.size, 2, none⟩ = some (.int .i64 s1) ∧ w'.cell? ⟨w2.heap.size, 3, none⟩ = some (.int .i64 s2) ∧ w'.cell? ⟨w2.heap.size, 4, none⟩ = some (.int .i64 s3) ∧ w'.cell? ⟨w2.heap.size, 5, none⟩ = some (.slice ra nr rc) ∧ w'.cell? ⟨w2.heap.size, 6, none⟩ = some (.slice da nd dc))) (
        first
        | exact HK.out _ (Below.refl _ _)
        | exact HK.out _ hX0
        | exact HK.out _ hB4
        | exact HK.out _ hB5
        | exact HK.out _ hB6) (
        first
        | (go_at_call 16; refine (HC3 _ (by exact HW.out.1.below hB5) (by exact HW.out.2.below hB5)).mono ?_; rintro e w6 ⟨rfl, hb6⟩; have hB6 : Below wr.heap.size wr w6 := hB5.trans (hb6.mono hB5.size))
        | (go_at_call 14; refine (HC2 _ (by exact HW.out.1.below hB4)).mono ?_; rintro e w5 ⟨rfl, hb5⟩; have hB5 : Below wr.heap.size wr w5 := hB4.trans (hb5.mono hB4.size))
        | (go_at_call 15; refine (HC1 _ (by exact HW.out.1.below hX0)).mono ?_; rintro e w4 ⟨rfl, hb4⟩; have hB4 : Below wr.heap.size wr w4 := hX0.trans (hb4.mono hX0.size)))
      have hBf : Below w.heap.size w w6 := hBw.trans (hB6.mono hBw.size)
      clear HC1 HC2 HC3 HK hb4 hb5 hb6 hB4 hB5 hB6
      go_wp2
      go_ret
      exact ⟨rfl, hBf⟩

end Go.Proofs.Ytcklpbmeelalcac
