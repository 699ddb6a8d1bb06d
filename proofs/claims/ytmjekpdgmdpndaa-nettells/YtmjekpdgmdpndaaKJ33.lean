/- Several texts in one: What the document's Wrong of a message does; What the document's SameMsg and SameMsgs do with messages that are the same; the statements' own right, and their closed fact about package house. -/
import Derived.Test.YtmjekpdgmdpndaaKHouseP
import Derived.Test.YtmjekpdgmdpndaaKJ07
import Derived.Test.YtmjekpdgmdpndaaKJ01
import Derived.Test.YtmjekpdgmdpndaaKHous4
import Derived.Test.YtmjekpdgmdpndaaKJ11
import Derived.Test.YtmjekpdgmdpndaaKLog5
import Derived.Test.YtmjekpdgmdpndaaKJ10
import Derived.Deep.RegionHeld3
namespace Go.Proofs.Ytmjekpdgmdpndaa
open Go.RowKit
attribute [local go_sem ↓] Go.wp_at_zero Go.wp_at_succ

theorem far_take {l : List P3} {k : Nat} (h : k < l.length) (hs : Int) : ((l.take (k + 1)).any fun p => !decide (p.1 = hs)) = (((l.take k).any fun p => !decide (p.1 = hs)) || !decide (l[k].1 = hs)) := by rw [take_snoc h, List.any_append, List.any_cons, List.any_nil, Bool.or_false]

set_option maxRecDepth 20000 in
set_option maxHeartbeats 2000000 in
theorem refWrong_any (k d hs : Int) (a : Option Addr) (l : List P3) (cap n : Nat) (w : World) (hn : n = l.length) (hl : l.length ≤ 9223372036854775807) (hp : PartsAt w a l) :
    Calls Try.prog 20 #[.agg #[.int .i64 k, .int .i64 d, .int .i64 hs, .slice a n cap]] w fun e w' => e = .returned (.int .i64 (wrongMB k d hs l)) ∧ Below w.heap.size w w' := by
  have hbX := below1 w (.cells #[.int .i64 k, .int .i64 d, .int .i64 hs, .slice a n cap] 43)
  have hm0 : Blk (w.alloc (.cells #[.int .i64 k, .int .i64 d, .int .i64 hs, .slice a n cap] 43)) w.heap.size #[.int .i64 k, .int .i64 d, .int .i64 hs, .slice a n cap] 43 := Blk.new _ _ _
  have HN : Hid (n = l.length ∧ PartsAt w a l ∧ l.length ≤ 9223372036854775807) := ⟨hn, hp, hl⟩
  have hnl : n ≤ 9223372036854775807 := by omega
  clear hn hp hl
  by_cases h1 : k < 1 ∨ 7 < k
  · have HF : Hid (wrongMB k d hs l = 1) := by show _ = _; unfold wrongMB; rw [if_pos h1]
    go_enter Try.func20, Try.ntmps20
    by_cases h1a : k < 1
    · clear h1
      go_wp2
      go_ret
      exact ⟨ret_int HF.out.symm, hbX⟩
    · have h1b : 7 < k := by omega
      clear h1
      go_wp2
      go_ret
      exact ⟨ret_int HF.out.symm, hbX⟩
  have h1a : ¬ k < 1 := by omega
  have h1b : ¬ 7 < k := by omega
  by_cases h2 : d < 0 ∨ 1343 < d ∨ hs < 0 ∨ 2 < hs
  · have HF : Hid (wrongMB k d hs l = 3) := by show _ = _; unfold wrongMB; rw [if_neg h1, if_pos h2]
    clear h1
    go_enter Try.func20, Try.ntmps20
    by_cases c1 : d < 0
    · clear h2
      go_wp2
      go_ret
      exact ⟨ret_int HF.out.symm, hbX⟩
    · by_cases c2 : 1343 < d
      · clear h2
        go_wp2
        go_ret
        exact ⟨ret_int HF.out.symm, hbX⟩
      · by_cases c3 : hs < 0
        · clear h2
          go_wp2
          go_ret
          exact ⟨ret_int HF.out.symm, hbX⟩
        · have c4 : 2 < hs := by omega
          clear h2
          go_wp2
          go_ret
          exact ⟨ret_int HF.out.symm, hbX⟩
  have c1 : ¬ d < 0 := by omega
  have c2 : ¬ 1343 < d := by omega
  have c3 : ¬ hs < 0 := by omega
  have c4 : ¬ 2 < hs := by omega
  by_cases h3 : 1 < k
  · by_cases h4 : n = 0
    · have HF : Hid (wrongMB k d hs l = 0) := by show _ = _; unfold wrongMB; rw [if_neg h1, if_neg h2, if_pos h3, if_pos (by have := HN.out.1; omega)]
      subst h4
      clear h1 h2
      go_enter Try.func20, Try.ntmps20
      go_wp2
      go_ret
      exact ⟨ret_int HF.out.symm, hbX⟩
    · have HF : Hid (wrongMB k d hs l = 5) := by show _ = _; unfold wrongMB; rw [if_neg h1, if_neg h2, if_pos h3, if_neg (by have := HN.out.1; omega)]
      have h4' : ((n : Int) != 0) = true := by simpa using h4
      clear h1 h2 h4
      go_enter Try.func20, Try.ntmps20
      go_wp2
      go_ret
      exact ⟨ret_int HF.out.symm, hbX⟩
  have HE : Hid (wrongMB k d hs l = if wrong l 3 = 0 then (if (l.any fun p => !decide (p.1 = hs)) = true then 3 else 0) else wrong l 3) := by show _ = _; unfold wrongMB; rw [if_neg h1, if_neg h2, if_neg h3]
  clear h1 h2
  go_enter Try.func20, Try.ntmps20
  go_wp2_with fail
  generalize w.alloc (.cells #[.int .i64 k, .int .i64 d, .int .i64 hs, .slice a n cap] 43) = W at *
  refine (wrongParts_any a l cap n 3 W HN.out.1 HN.out.2.2 (HN.out.2.1.below hbX) (by decide)).mono ?_
  rintro e w1 ⟨rfl, hb1⟩
  have hB1 : Below w.heap.size w w1 := hbX.trans (hb1.mono hbX.size)
  have hm1 := hm0.below hb1 hm0.lt
  clear hb1 hbX hm0
  generalize hwr : wrong l 3 = x at *
  by_cases hx : x = 0
  · subst hx
    have q2 := hm1.cell 2
    have q3 := hm1.cell 3
    have hql := hm1.lt
    simp at q2 q3
    clear hwr
    go_wp2
    clear q2 q3
    go_loopw [48] (fun i w' => ∃ k : Nat, k ≤ n ∧ i = .int .i64 k ∧ Hid (((l.take k).any fun p => !decide (p.1 = hs)) = false) ∧ Below w1.heap.size w1 w') (fun i _ => n - (intOf i).toNat)
    case atStart => exact ⟨0, Nat.zero_le _, rfl, rfl, Below.refl _ _⟩
    case round =>
      obtain ⟨j, hj, rfl, hno, hbw⟩ := hrel
      have hBr : Below w.heap.size w wr := hB1.trans (hbw.mono hB1.size)
      have hmr := hm1.below hbw hm1.lt
      have q2 := hmr.cell 2
      have hqr := hmr.lt
      simp at q2
      by_cases hlt : j < n
      · have hjl : j < l.length := by have := HN.out.1; omega
        rcases HN.out.2.1.below hBr with h0 | ⟨g, o, rfl, hg, hc⟩
        · rw [h0] at hjl; simp at hjl
        obtain ⟨e0, e1, e2⟩ := hc j hjl
        have HS : Hid (((l.take (j + 1)).any fun p => !decide (p.1 = hs)) = !decide (l[j].1 = hs)) := by show _ = _; rw [far_take hjl, hno.out]; rfl
        have HA : Hid (¬ l[j].1 = hs → (l.any fun p => !decide (p.1 = hs)) = true) := fun h => by
          rw [List.any_eq_true]
          exact ⟨_, List.getElem_mem hjl, by simpa using h⟩
        clear hc hno
        generalize l[j] = p at *
        obtain ⟨p0, p1, p2⟩ := p
        simp only at e0 e1 e2 HS HA
        have hbA := below1 wr (.cells #[.int .i64 p0, .int .i64 p1, .int .i64 p2] 65)
        have hBA := hBr.trans (hbA.mono hBr.size)
        have hBm := hbw.trans (hbA.mono hbw.size)
        clear hmr hbw
        by_cases hp : p0 = hs
        · subst hp
          have HF : Hid (((l.take (j + 1)).any fun p => !decide (p.1 = p0)) = false) := by show _ = _; rw [HS.out]; simp
          clear HS HA
          go_wp2
          go_roundw
          case rel => exact ⟨j + 1, by omega, by go_num, HF, hBm⟩
          case measure => simp [intOf]; omega
        · have HF : Hid (wrongMB k d hs l = 3) := by show _ = _; rw [HE.out, if_pos trivial, if_pos (HA.out hp)]
          have hp' : (p0 != hs) = true := by simpa using hp
          clear HS HA hp
          go_wp2
          go_ret
          exact ⟨ret_int HF.out.symm, hBA⟩
      · have HF : Hid (wrongMB k d hs l = 0) := by
          have h := hno.out
          rw [List.take_of_length_le (by have := HN.out.1; omega)] at h
          show _ = _
          rw [HE.out, if_pos trivial, h]
          rfl
        clear hno
        go_wp2
        go_ret
        exact ⟨ret_int HF.out.symm, hBr⟩
  · have HF : Hid (wrongMB k d hs l = x) := by show _ = _; rw [HE.out, if_neg hx]
    have hx' : (x != 0) = true := by simpa using hx
    clear hx hwr HE
    go_wp2
    go_ret
    exact ⟨ret_int HF.out.symm, hB1⟩

end Go.Proofs.Ytmjekpdgmdpndaa

namespace Go.Proofs.Ytmjekpdgmdpndaa
open Go.RowKit
attribute [local go_sem ↓] Go.wp_at_zero Go.wp_at_succ

set_option maxRecDepth 20000 in
set_option maxHeartbeats 1000000 in
theorem sameMsg_any (k d h : Int) (a1 a2 : Option Addr) (l : List P3) (c1 c2 n1 n2 : Nat) (w : World) (hn1 : n1 = l.length) (hn2 : n2 = l.length) (hl : l.length ≤ 9223372036854775807) (hp1 : PartsAt w a1 l) (hp2 : PartsAt w a2 l) :
    Calls Try.prog 19 #[.agg #[.int .i64 k, .int .i64 d, .int .i64 h, .slice a1 n1 c1], .agg #[.int .i64 k, .int .i64 d, .int .i64 h, .slice a2 n2 c2]] w fun e w' => e = .returned (.bool true) ∧ Below w.heap.size w w' := by
  have HS := sameParts_q a1 a2 l c1 c2 n1 n2 ((w.alloc (.cells #[.int .i64 k, .int .i64 d, .int .i64 h, .slice a1 n1 c1] 43)).alloc (.cells #[.int .i64 k, .int .i64 d, .int .i64 h, .slice a2 n2 c2] 43)) hn1 hn2 hl (hp1.below (below2 _ _ _)) (hp2.below (below2 _ _ _))
  clear hp1 hp2 hn1 hn2 hl
  go_enter Try.func19, Try.ntmps19
  go_wp2_with fail
  have hb0 := below2 w (.cells #[.int .i64 k, .int .i64 d, .int .i64 h, .slice a1 n1 c1] 43) (.cells #[.int .i64 k, .int .i64 d, .int .i64 h, .slice a2 n2 c2] 43)
  generalize ((w.alloc (.cells #[.int .i64 k, .int .i64 d, .int .i64 h, .slice a1 n1 c1] 43)).alloc (.cells #[.int .i64 k, .int .i64 d, .int .i64 h, .slice a2 n2 c2] 43)) = W at *
  refine HS.mono ?_
  rintro e w1 ⟨rfl, m, hm⟩
  have hb1 : Below w.heap.size w w1 := by rw [hm]; exact hb0.trans ((drewN_below W m).mono hb0.size)
  clear HS hb0 hm
  go_wp2
  go_ret
  exact ⟨rfl, hb1⟩

/-- A house's value, laid open. -/
theorem HouseAt.all {w : World} {v : Value} {L : List R3} {h : H3} {k : Nat} (hh : HouseAt w v L h) (hi : HInv k h) (hk : k ≤ 9223372036854775807) : ∃ (la : Option Addr) (nl lc : Nat) (ra : Option Addr) (nr rc : Nat) (XR : List XD) (da : Option Addr) (nd dc : Nat),
    v = .agg #[.slice la nl lc, .int .i64 h.1.1, .int .i64 h.1.2.1, .int .i64 h.1.2.2.1, .int .i64 h.1.2.2.2, .slice ra nr rc, .slice da nd dc] ∧ RdyAt w ra nr XR h.2.1 ∧ nd = h.2.2.length ∧ RowAt 1 encI w da h.2.2 := by
  obtain ⟨la, nl, lc, Y, ra, nr, rc, XR, da, nd, dc, hv, _, ⟨h4, h5, h6⟩, h7, _, _, h8⟩ := hh
  refine ⟨la, nl, lc, ra, nr, rc, XR, da, nd, dc, hv, ⟨h4, ?_, ?_, h6, h5⟩, h7, h8⟩
  · have h1 := hi.few
    rw [← h5, List.length_map] at h1
    omega
  · intro x hx
    have h1 := (hi.ok (stripD x) (by rw [← h5]; exact List.mem_map.2 ⟨x, hx, rfl⟩)).1
    have h2 : x.2.2.length ≤ 4 := h1
    omega
/-- One message, laid open. -/
theorem OwnL.one {w : World} {base : Nat} {a : Option Addr} {n c : Nat} {x : XM} (h : OwnL 43 4 encM w base (.slice a n c) [x]) : n = 1 ∧ ∃ g o, a = some ⟨g, o, none⟩ ∧ g < w.heap.size ∧ w.cell? ⟨g, o, none⟩ = some (.int .i64 x.1) := by
  have hk := h.at lenM
  refine ⟨hk.2.1, ?_⟩
  rcases hk.1 with h0 | ⟨g, o, ha, hg, hc⟩
  · cases h0
  · exact ⟨g, o, ha, hg, hc 0 (by simp) 0 _ rfl⟩
theorem fieldSums (v0 v1 v2 v3 v4 v5 v6 : Value) (w : World) : (Instr.field 123 (.agg #[v0, v1, v2, v3, v4, v5, v6]) 1).run Try.prog w = .ok (.agg #[v1, v2, v3, v4]) w := by kernel_rfl
attribute [local go_sem ↓] fieldSums

end Go.Proofs.Ytmjekpdgmdpndaa
