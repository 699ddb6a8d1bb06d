/- Several texts in one: What house.Hear does, called at a house and a message that lie in memory; What the document's SameMsg and SameMsgs do with messages that are the same; the statements' own right, and their closed fact about package house. -/
import Derived.Test.YtmjekpdgmdpndaaKJ07
import Derived.Test.YtmjekpdgmdpndaaKJ31
import Derived.Test.YtmjekpdgmdpndaaKLog5
import Derived.Test.YtmjekpdgmdpndaaKHearA
import Derived.Test.YtmjekpdgmdpndaaKJ10
import Derived.Test.YtmjekpdgmdpndaaKJ12
import Derived.Test.YtmjekpdgmdpndaaKHouseP
import Derived.Test.YtmjekpdgmdpndaaKJ00
import Derived.Test.YtmjekpdgmdpndaaKJ01
import Derived.Deep.RegionHeld3
import Derived.Deep.RegionWith
import Derived.Laws.EntriesVeiled
import Derived.Lib.AppendZeros
import Derived.WalkSmall
namespace Go.Proofs.Ytmjekpdgmdpndaa
open Go.RowKit
attribute [local go_sem ↓] Go.wp_at_zero Go.wp_at_succ
/-- On the way: h lies in block N, me in the next one, m in the third, the answer in the fourth; now in block P, said in the next one. -/
structure HMid (w wx : World) (P : Nat) (k d hs me : Int) (mv : Value) (hc : Array Value) (L : List R3) (u0 u1 u2 u3 u4 u5 u6 sv : Value) : Prop where
  hb : Blk wx w.heap.size hc 123
  eb : Blk wx (w.heap.size + 1) #[.int .i64 me] 3
  mb : Blk wx (w.heap.size + 1 + 1) #[.int .i64 k, .int .i64 d, .int .i64 hs, mv] 43
  zb : Blk wx (w.heap.size + 1 + 1 + 1) #[.slice none 0 0, .int .i64 0, .int .i64 0, .int .i64 0, .int .i64 0, .slice none 0 0, .slice none 0 0] 123
  nb : Blk wx P #[u0, u1, u2, u3, u4, u5, u6] 123
  nv : HouseN w.heap.size wx (.agg #[u0, u1, u2, u3, u4, u5, u6]) L (houseB L)
  sb : Blk wx (P + 1) #[sv] 24
  far : w.heap.size + 1 + 1 + 1 < P
  bel : Below w.heap.size w wx
theorem HMid.below {w wx wy : World} {P : Nat} {k d hs me : Int} {mv : Value} {hc : Array Value} {L : List R3} {u0 u1 u2 u3 u4 u5 u6 sv : Value} (H : HMid w wx P k d hs me mv hc L u0 u1 u2 u3 u4 u5 u6 sv) (hb : Below wx.heap.size wx wy) : HMid w wy P k d hs me mv hc L u0 u1 u2 u3 u4 u5 u6 sv :=
  ⟨H.hb.below hb H.hb.lt, H.eb.below hb H.eb.lt, H.mb.below hb H.mb.lt, H.zb.below hb H.zb.lt, H.nb.below hb H.nb.lt, H.nv.below hb, H.sb.below hb H.sb.lt, H.far, H.bel.trans (hb.mono H.bel.size)⟩
/-- Another house is now. -/
theorem HMid.note {w wx wy : World} {P : Nat} {k d hs me : Int} {mv : Value} {hc : Array Value} {L L2 : List R3} {u0 u1 u2 u3 u4 u5 u6 v0 v1 v2 v3 v4 v5 v6 sv : Value} (H : HMid w wx P k d hs me mv hc L u0 u1 u2 u3 u4 u5 u6 sv) (hP : Blk wy P #[v0, v1, v2, v3, v4, v5, v6] 123) (hv : HouseN wx.heap.size wy (.agg #[v0, v1, v2, v3, v4, v5, v6]) L2 (houseB L2)) (hk : Keep (fun b => b = P) wx wy) : HMid w wy P k d hs me mv hc L2 v0 v1 v2 v3 v4 v5 v6 sv := by
  have hf := H.far
  exact ⟨H.hb.keep hk (by omega), H.eb.keep hk (by omega), H.mb.keep hk (by omega), H.zb.keep hk (by omega), hP, hv.mono H.bel.size, H.sb.keep hk (by omega), hf, H.bel.trans (hk.below H.bel.size (fun b hb => by omega))⟩
/-- Something is said. -/
theorem HMid.say {w wx wy : World} {P : Nat} {k d hs me : Int} {mv : Value} {hc : Array Value} {L : List R3} {u0 u1 u2 u3 u4 u5 u6 sv tv : Value} (H : HMid w wx P k d hs me mv hc L u0 u1 u2 u3 u4 u5 u6 sv) (hS : Blk wy (P + 1) #[tv] 24) (hv : HouseN w.heap.size wy (.agg #[u0, u1, u2, u3, u4, u5, u6]) L (houseB L)) (hk : Keep (fun b => b = P + 1) wx wy) : HMid w wy P k d hs me mv hc L u0 u1 u2 u3 u4 u5 u6 tv := by
  have hf := H.far
  exact ⟨H.hb.keep hk (by omega), H.eb.keep hk (by omega), H.mb.keep hk (by omega), H.zb.keep hk (by omega), H.nb.keep hk (by omega), hv, hS, hf, H.bel.trans (hk.below H.bel.size (fun b hb => by omega))⟩
theorem Keep.only {T : TypeId} {S : Nat} {w w' : World} {cs : Array Value} (hb : Blk w S cs T) (hk : Keep (fun b => b = S) w w') : Only T w w' := fun b cs' t ht x => x.keep hk (fun e => by
  subst e
  unfold Blk at hb x
  rw [hb] at x
  injection x with x
  injection x with _ q _
  exact ht q.symm)
/-- The cells of h, of m. -/
theorem HMid.cells {w wx : World} {P : Nat} {k d hs me : Int} {mv : Value} {c0 c1 c2 c3 c4 c5 c6 : Value} {L : List R3} {u0 u1 u2 u3 u4 u5 u6 sv : Value} (H : HMid w wx P k d hs me mv #[c0, c1, c2, c3, c4, c5, c6] L u0 u1 u2 u3 u4 u5 u6 sv) :
    (wx.cell? ⟨w.heap.size, 0, none⟩ = some c0 ∧ wx.cell? ⟨w.heap.size, 1, none⟩ = some c1 ∧ wx.cell? ⟨w.heap.size, 2, none⟩ = some c2 ∧ wx.cell? ⟨w.heap.size, 3, none⟩ = some c3 ∧ wx.cell? ⟨w.heap.size, 4, none⟩ = some c4 ∧ wx.cell? ⟨w.heap.size, 5, none⟩ = some c5 ∧ wx.cell? ⟨w.heap.size, 6, none⟩ = some c6) ∧
    (wx.cell? ⟨w.heap.size + 1 + 1, 0, none⟩ = some (.int .i64 k) ∧ wx.cell? ⟨w.heap.size + 1 + 1, 1, none⟩ = some (.int .i64 d) ∧ wx.cell? ⟨w.heap.size + 1 + 1, 3, none⟩ = some mv) ∧ (w.heap.size < wx.heap.size ∧ w.heap.size + 1 < wx.heap.size ∧ w.heap.size + 1 + 1 < wx.heap.size ∧ w.heap.size + 1 + 1 + 1 < wx.heap.size) ∧ P < wx.heap.size ∧ P + 1 < wx.heap.size :=
  ⟨⟨H.hb.cell 0, H.hb.cell 1, H.hb.cell 2, H.hb.cell 3, H.hb.cell 4, H.hb.cell 5, H.hb.cell 6⟩, ⟨H.mb.cell 0, H.mb.cell 1, H.mb.cell 3⟩, ⟨H.hb.lt, H.eb.lt, H.mb.lt, H.zb.lt⟩, H.nb.lt, H.sb.lt⟩

theorem HMid.open {w wx : World} {P : Nat} {k d hs me : Int} {mv : Value} {hc : Array Value} {L : List R3} {u0 u1 u2 u3 u4 u5 u6 sv : Value} (H : HMid w wx P k d hs me mv hc L u0 u1 u2 u3 u4 u5 u6 sv) :
    ∃ (la : Option Addr) (nl lc : Nat) (t0 t1 t2 t3 : Int) (ra : Option Addr) (nr rc : Nat) (da : Option Addr) (nd dc : Nat), u0 = .slice la nl lc ∧ u1 = .int .i64 t0 ∧ u2 = .int .i64 t1 ∧ u3 = .int .i64 t2 ∧ u4 = .int .i64 t3 ∧ u5 = .slice ra nr rc ∧ u6 = .slice da nd dc ∧ nd = (houseB L).2.2.length ∧ RowAt 1 encI wx da (houseB L).2.2 := by
  obtain ⟨la, nl, lc, Y, ra, nr, rc, XR, da, nd, dc, hv, -, -, h6⟩ := H.nv
  injection hv with hv
  injection hv with hv
  simp only [List.cons.injEq, and_true] at hv
  obtain ⟨e0, e1, e2, e3, e4, e5, e6⟩ := hv
  have k3 := h6.at lenI
  exact ⟨la, nl, lc, _, _, _, _, ra, nr, rc, da, nd, dc, e0, e1, e2, e3, e4, e5, e6, k3.2.1, k3.1⟩
end Go.Proofs.Ytmjekpdgmdpndaa

namespace Go.Proofs.Ytmjekpdgmdpndaa
open Go.RowKit
attribute [local go_sem ↓] Go.wp_at_zero Go.wp_at_succ

set_option maxRecDepth 20000 in
set_option maxHeartbeats 1000000 in
theorem sameMsg_any (k d h : Int) (a1 a2 : Option Addr) (l : List P3) (c1 c2 n1 n2 : Nat) (w : World) (hn1 : n1 = l.length) (hn2 : n2 = l.length) (hl : l.length ≤ 9223372036854775807) (hp1 : PartsAt w a1 l) (hp2 : PartsAt w a2 l) :
    Calls Try.prog 19 #[.agg #[.int .i64 k, .int .i64 d, .int .i64 h, .slice a1 n1 c1], .agg #[.int .i64 k, .int .i64 d, .int .i64 h, .slice a2 n2 c2]] w fun e w' => e = .returned (.bool true) ∧ Below w.heap.size w w' := by
  have HS := sameParts_q a1 a2 l c1 c2 n1 n2 ((w.alloc (.cells #[.int .i64 k, .int .i64 d, .int .i64 h, .slice a1 n1 c1] 43)).alloc (.cells #[.int .i64 k, .int .i64 d, .int .i64 h, .slice a2 n2 c2] 43)) hn1 hn2 hl (hp1.below (below2 _ _ _)) (hp2.below (below2 _ _ _))
  clear hp1 hp2 hn1 hn2 hl
  go_enter Try.func19, Try.ntmps19
  go_wp2_with fail
  have hb0 := below2 w (.cells #[.int .i64 k, .int .i64 d, .int .i64 h, .slice a1 n1 c1] 43) (.cells #[.int .i64 k, .int .i64 d, .int .i64 h, .slice a2 n2 c2] 43)
  generalize ((w.alloc (.cells #[.int .i64 k, .int .i64 d, .int .i64 h, .slice a1 n1 c1] 43)).alloc (.cells #[.int .i64 k, .int .i64 d, .int .i64 h, .slice a2 n2 c2] 43)) = W at *
  refine HS.mono ?_
  rintro e w1 ⟨rfl, m, hm⟩
  have hb1 : Below w.heap.size w w1 := by rw [hm]; exact hb0.trans ((drewN_below W m).mono hb0.size)
  clear HS hb0 hm
  go_wp2
  go_ret
  exact ⟨rfl, hb1⟩

/-- A house's value, laid open. -/
theorem HouseAt.all {w : World} {v : Value} {L : List R3} {h : H3} {k : Nat} (hh : HouseAt w v L h) (hi : HInv k h) (hk : k ≤ 9223372036854775807) : ∃ (la : Option Addr) (nl lc : Nat) (ra : Option Addr) (nr rc : Nat) (XR : List XD) (da : Option Addr) (nd dc : Nat),
    v = .agg #[.slice la nl lc, .int .i64 h.1.1, .int .i64 h.1.2.1, .int .i64 h.1.2.2.1, .int .i64 h.1.2.2.2, .slice ra nr rc, .slice da nd dc] ∧ RdyAt w ra nr XR h.2.1 ∧ nd = h.2.2.length ∧ RowAt 1 encI w da h.2.2 := by
  obtain ⟨la, nl, lc, Y, ra, nr, rc, XR, da, nd, dc, hv, _, ⟨h4, h5, h6⟩, h7, _, _, h8⟩ := hh
  refine ⟨la, nl, lc, ra, nr, rc, XR, da, nd, dc, hv, ⟨h4, ?_, ?_, h6, h5⟩, h7, h8⟩
  · have h1 := hi.few
    rw [← h5, List.length_map] at h1
    omega
  · intro x hx
    have h1 := (hi.ok (stripD x) (by rw [← h5]; exact List.mem_map.2 ⟨x, hx, rfl⟩)).1
    have h2 : x.2.2.length ≤ 4 := h1
    omega
/-- One message, laid open. -/
theorem OwnL.one {w : World} {base : Nat} {a : Option Addr} {n c : Nat} {x : XM} (h : OwnL 43 4 encM w base (.slice a n c) [x]) : n = 1 ∧ ∃ g o, a = some ⟨g, o, none⟩ ∧ g < w.heap.size ∧ w.cell? ⟨g, o, none⟩ = some (.int .i64 x.1) := by
  have hk := h.at lenM
  refine ⟨hk.2.1, ?_⟩
  rcases hk.1 with h0 | ⟨g, o, ha, hg, hc⟩
  · cases h0
  · exact ⟨g, o, ha, hg, hc 0 (by simp) 0 _ rfl⟩
theorem fieldSums (v0 v1 v2 v3 v4 v5 v6 : Value) (w : World) : (Instr.field 123 (.agg #[v0, v1, v2, v3, v4, v5, v6]) 1).run Try.prog w = .ok (.agg #[v1, v2, v3, v4]) w := by kernel_rfl
attribute [local go_sem ↓] fieldSums

end Go.Proofs.Ytmjekpdgmdpndaa
