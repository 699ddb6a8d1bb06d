/- What the document's SameMsg and SameMsgs do with messages that are the same; the statements' own right, and their closed fact about package house. -/
import Derived.Test.YtikmnaegalmfeaaKHous4
import Derived.Test.YtikmnaegalmfeaaKJ33
import Derived.Test.YtikmnaegalmfeaaKLog5
import Derived.Test.YtikmnaegalmfeaaKHousU
import Derived.Deep.RegionHeld3
namespace Go.Proofs.Ytikmnaegalmfeaa
open Go.RowKit
attribute [local go_sem ↓] Go.wp_at_zero Go.wp_at_succ
/-- A house's value, laid open. -/
theorem HouseAt.all {w : World} {v : Value} {L : List R3} {h : H3} {k : Nat} (hh : HouseAt w v L h) (hi : HInv k h) (hk : k ≤ 9223372036854775807) : ∃ (la : Option Addr) (nl lc : Nat) (ra : Option Addr) (nr rc : Nat) (XR : List XD) (da : Option Addr) (nd dc : Nat),
    v = .agg #[.slice la nl lc, .int .i64 h.1.1, .int .i64 h.1.2.1, .int .i64 h.1.2.2.1, .int .i64 h.1.2.2.2, .slice ra nr rc, .slice da nd dc] ∧ RdyAt w ra nr XR h.2.1 ∧ nd = h.2.2.length ∧ RowAt 1 encI w da h.2.2 := by
  obtain ⟨la, nl, lc, Y, ra, nr, rc, XR, da, nd, dc, hv, _, ⟨h4, h5, h6⟩, h7, _, _, h8⟩ := hh
  refine ⟨la, nl, lc, ra, nr, rc, XR, da, nd, dc, hv, ⟨h4, ?_, ?_, h6, h5⟩, h7, h8⟩
  · have h1 := hi.few
    rw [← h5, List.length_map] at h1
    omega
  · intro x hx
    have h1 := (hi.ok (stripD x) (by rw [← h5]; exact List.mem_map.2 ⟨x, hx, rfl⟩)).1
    have h2 : x.2.2.length ≤ 4 := h1
    omega
/-- One message, laid open. -/
theorem OwnL.one {w : World} {base : Nat} {a : Option Addr} {n c : Nat} {x : XM} (h : OwnL 25 4 encM w base (.slice a n c) [x]) : n = 1 ∧ ∃ g o, a = some ⟨g, o, none⟩ ∧ g < w.heap.size ∧ w.cell? ⟨g, o, none⟩ = some (.int .i64 x.1) := by
  have hk := h.at lenM
  refine ⟨hk.2.1, ?_⟩
  rcases hk.1 with h0 | ⟨g, o, ha, hg, hc⟩
  · cases h0
  · exact ⟨g, o, ha, hg, hc 0 (by simp) 0 _ rfl⟩
theorem houseAt_nil (w : World) : HouseAt w (.agg #[.slice none 0 0, .int .i64 0, .int .i64 0, .int .i64 0, .int .i64 0, .slice none 0 0, .slice none 0 0]) [] (houseB []) :=
  ⟨none, 0, 0, [], none, 0, 0, [], none, 0, 0, rfl, ⟨rfl, rfl, Or.inl rfl, (fun y hy => by cases hy)⟩, ⟨rfl, rfl, Or.inl rfl, (fun y hy => by cases hy)⟩, rfl, Nat.le_refl _, Nat.zero_le _, Or.inl rfl⟩

theorem fieldSums (v0 v1 v2 v3 v4 v5 v6 : Value) (w : World) : (Instr.field 31 (.agg #[v0, v1, v2, v3, v4, v5, v6]) 1).run Try.prog w = .ok (.agg #[v1, v2, v3, v4]) w := by kernel_rfl
attribute [local go_sem ↓] fieldSums

set_option maxRecDepth 20000 in
set_option maxHeartbeats 2000000 in
theorem right_any (a : Option Addr) (X : List XL) (cap n : Nat) (k d hs : Int) (ma : Option Addr) (l : List P3) (nm cm : Nat) (w : World) (hn : n = X.length) (hl : X.length ≤ 9223372036854775807) (hm : ∀ x ∈ X, x.2.2.2.length ≤ 9223372036854775807) (hp : RecsAt w a X) (hnm : nm = l.length) (hml : l.length ≤ 9223372036854775807) (hq : PartsAt w ma l) :
    Calls Try.prog 7 #[.slice a n cap, .agg #[.int .i64 k, .int .i64 d, .int .i64 hs, .slice ma nm cm]] w fun e w' => e = .returned (.bool (rightLog (X.map stripL) && decide (wrongMB k d hs l = 0) && rightS (houseB (X.map stripL)).1)) ∧ Below w.heap.size w w' := by
  have HN : Hid ((n = X.length ∧ RecsAt w a X) ∧ (nm = l.length ∧ l.length ≤ 9223372036854775807 ∧ PartsAt w ma l)) := ⟨⟨hn, hp⟩, hnm, hml, hq⟩
  have hb0 := below1 w (.cells #[.int .i64 k, .int .i64 d, .int .i64 hs, .slice ma nm cm] 25)
  have hm0 : Blk (w.alloc (.cells #[.int .i64 k, .int .i64 d, .int .i64 hs, .slice ma nm cm] 25)) w.heap.size #[.int .i64 k, .int .i64 d, .int .i64 hs, .slice ma nm cm] 25 := Blk.new _ _ _
  have HR := rightLog_any a X cap n (w.alloc (.cells #[.int .i64 k, .int .i64 d, .int .i64 hs, .slice ma nm cm] 25)) hn hl hm (hp.below hb0)
  clear hn hl hm hp hnm hml hq
  go_enter Try.func7, Try.ntmps7
  go_wp2_with fail
  generalize (w.alloc (.cells #[.int .i64 k, .int .i64 d, .int .i64 hs, .slice ma nm cm] 25)) = W at *
  refine HR.mono ?_
  rintro e w1 ⟨rfl, hb1⟩
  have hB1 : Below w.heap.size w w1 := hb0.trans (hb1.mono hb0.size)
  have hm1 := hm0.below hb1 hm0.lt
  clear HR hb1 hb0 hm0
  cases hz1 : rightLog (X.map stripL)
  · have HF : Hid ((rightLog (X.map stripL) && decide (wrongMB k d hs l = 0) && rightS (houseB (X.map stripL)).1) = false) := by show _ = _; rw [hz1]; rfl
    clear hz1
    go_wp2
    go_ret
    exact ⟨ret_bool HF.out.symm, hB1⟩
  · have HOK : Hid (rightLog (X.map stripL) = true) := hz1
    have r0 := hm1.cell 0
    have r1 := hm1.cell 1
    have r2 := hm1.cell 2
    have r3 := hm1.cell 3
    have rl := hm1.lt
    simp at r0 r1 r2 r3
    clear hz1 hm1
    go_wp2_with fail
    refine (refWrong_any k d hs ma l cm nm w1 HN.out.2.1 HN.out.2.2.1 (HN.out.2.2.2.below hB1)).mono ?_
    rintro e w2 ⟨rfl, hb2⟩
    have hB2 : Below w.heap.size w w2 := hB1.trans (hb2.mono hB1.size)
    clear r0 r1 r2 r3 rl hb2 hB1
    generalize hwm : wrongMB k d hs l = wm at *
    have HWM : Hid (wrongMB k d hs l = wm) := hwm
    by_cases hw0 : wm = 0
    · subst hw0
      have hok := rightLog_ok HOK.out
      have HC := refHouse_any a X cap n w2 HN.out.1.1 (CalcL.of hok.1 (by have := hok.2; omega)) (HN.out.1.2.below hB2)
      have hinv := houseB_inv hok.1
      clear hwm
      go_wp2_with fail
      refine HC.mono ?_
      rintro e w3 ⟨v3, rfl, hh3, hb3⟩
      have hB3 : Below w.heap.size w w3 := hB2.trans (hb3.mono hB2.size)
      obtain ⟨la, nl, lc, ra, nr, rc, XR, da, nd, dc, rfl, -⟩ := hh3.open hinv (by have := hok.2; omega)
      clear HC hh3 hb3 hB2 hok hinv
      generalize hhb : houseB (X.map stripL) = h at *
      obtain ⟨⟨s0, s1, s2, s3⟩, D, dn⟩ := h
      simp only
      have HF : Hid ((rightLog (X.map stripL) && decide (wrongMB k d hs l = 0) && rightS (houseB (X.map stripL)).1) = rightS (s0, s1, s2, s3)) := by show _ = _; rw [HOK.out, HWM.out, hhb]; simp
      clear hhb
      go_wp2_with fail
      refine (rightSums_any s0 s1 s2 s3 w3).mono ?_
      rintro e w4 ⟨rfl, hb4⟩
      have hB4 : Below w.heap.size w w4 := hB3.trans (hb4.mono hB3.size)
      clear hb4 hB3
      go_wp2
      go_ret
      exact ⟨ret_bool HF.out.symm, hB4⟩
    · have HF : Hid ((rightLog (X.map stripL) && decide (wrongMB k d hs l = 0) && rightS (houseB (X.map stripL)).1) = false) := by show _ = _; rw [HOK.out, HWM.out, decide_eq_false hw0]; simp
      have hw0' : (wm == 0) = false := by simpa using hw0
      clear hw0 hwm
      go_wp2
      go_ret
      exact ⟨ret_bool HF.out.symm, hB2⟩

end Go.Proofs.Ytikmnaegalmfeaa
