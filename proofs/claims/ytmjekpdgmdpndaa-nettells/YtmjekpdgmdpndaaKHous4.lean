/- What house.Hear does, called at a house and a message that lie in memory. -/
import Derived.Test.YtmjekpdgmdpndaaKJ07
import Derived.Test.YtmjekpdgmdpndaaKJ29
import Derived.Test.YtmjekpdgmdpndaaKLog5
import Derived.Test.YtmjekpdgmdpndaaKJ11
import Derived.Test.YtmjekpdgmdpndaaKJ10
import Derived.Deep.RegionHeld3
import Derived.Deep.RegionWith
import Derived.Laws.EntriesVeiled
import Derived.Lib.AppendZeros
namespace Go.Proofs.Ytmjekpdgmdpndaa
open Go.RowKit
attribute [local go_sem ↓] Go.wp_at_zero Go.wp_at_succ
/-- On the way: h lies in block N, me in the next one, m in the third, the answer in the fourth; now in block P, said in the next one. -/
structure HMid (w wx : World) (P : Nat) (k d hs me : Int) (mv : Value) (hc : Array Value) (L : List R3) (u0 u1 u2 u3 u4 u5 u6 sv : Value) : Prop where
  hb : Blk wx w.heap.size hc 123
  eb : Blk wx (w.heap.size + 1) #[.int .i64 me] 3
  mb : Blk wx (w.heap.size + 1 + 1) #[.int .i64 k, .int .i64 d, .int .i64 hs, mv] 43
  zb : Blk wx (w.heap.size + 1 + 1 + 1) #[.slice none 0 0, .int .i64 0, .int .i64 0, .int .i64 0, .int .i64 0, .slice none 0 0, .slice none 0 0] 123
  nb : Blk wx P #[u0, u1, u2, u3, u4, u5, u6] 123
  nv : HouseN w.heap.size wx (.agg #[u0, u1, u2, u3, u4, u5, u6]) L (houseB L)
  sb : Blk wx (P + 1) #[sv] 24
  far : w.heap.size + 1 + 1 + 1 < P
  bel : Below w.heap.size w wx
theorem HMid.below {w wx wy : World} {P : Nat} {k d hs me : Int} {mv : Value} {hc : Array Value} {L : List R3} {u0 u1 u2 u3 u4 u5 u6 sv : Value} (H : HMid w wx P k d hs me mv hc L u0 u1 u2 u3 u4 u5 u6 sv) (hb : Below wx.heap.size wx wy) : HMid w wy P k d hs me mv hc L u0 u1 u2 u3 u4 u5 u6 sv :=
  ⟨H.hb.below hb H.hb.lt, H.eb.below hb H.eb.lt, H.mb.below hb H.mb.lt, H.zb.below hb H.zb.lt, H.nb.below hb H.nb.lt, H.nv.below hb, H.sb.below hb H.sb.lt, H.far, H.bel.trans (hb.mono H.bel.size)⟩
/-- Another house is now. -/
theorem HMid.note {w wx wy : World} {P : Nat} {k d hs me : Int} {mv : Value} {hc : Array Value} {L L2 : List R3} {u0 u1 u2 u3 u4 u5 u6 v0 v1 v2 v3 v4 v5 v6 sv : Value} (H : HMid w wx P k d hs me mv hc L u0 u1 u2 u3 u4 u5 u6 sv) (hP : Blk wy P #[v0, v1, v2, v3, v4, v5, v6] 123) (hv : HouseN wx.heap.size wy (.agg #[v0, v1, v2, v3, v4, v5, v6]) L2 (houseB L2)) (hk : Keep (fun b => b = P) wx wy) : HMid w wy P k d hs me mv hc L2 v0 v1 v2 v3 v4 v5 v6 sv := by
  have hf := H.far
  exact ⟨H.hb.keep hk (by omega), H.eb.keep hk (by omega), H.mb.keep hk (by omega), H.zb.keep hk (by omega), hP, hv.mono H.bel.size, H.sb.keep hk (by omega), hf, H.bel.trans (hk.below H.bel.size (fun b hb => by omega))⟩
/-- Something is said. -/
theorem HMid.say {w wx wy : World} {P : Nat} {k d hs me : Int} {mv : Value} {hc : Array Value} {L : List R3} {u0 u1 u2 u3 u4 u5 u6 sv tv : Value} (H : HMid w wx P k d hs me mv hc L u0 u1 u2 u3 u4 u5 u6 sv) (hS : Blk wy (P + 1) #[tv] 24) (hv : HouseN w.heap.size wy (.agg #[u0, u1, u2, u3, u4, u5, u6]) L (houseB L)) (hk : Keep (fun b => b = P + 1) wx wy) : HMid w wy P k d hs me mv hc L u0 u1 u2 u3 u4 u5 u6 tv := by
  have hf := H.far
  exact ⟨H.hb.keep hk (by omega), H.eb.keep hk (by omega), H.mb.keep hk (by omega), H.zb.keep hk (by omega), H.nb.keep hk (by omega), hv, hS, hf, H.bel.trans (hk.below H.bel.size (fun b hb => by omega))⟩
theorem Keep.only {T : TypeId} {S : Nat} {w w' : World} {cs : Array Value} (hb : Blk w S cs T) (hk : Keep (fun b => b = S) w w') : Only T w w' := fun b cs' t ht x => x.keep hk (fun e => by
  subst e
  unfold Blk at hb x
  rw [hb] at x
  injection x with x
  injection x with _ q _
  exact ht q.symm)
/-- The cells of h, of m. -/
theorem HMid.cells {w wx : World} {P : Nat} {k d hs me : Int} {mv : Value} {c0 c1 c2 c3 c4 c5 c6 : Value} {L : List R3} {u0 u1 u2 u3 u4 u5 u6 sv : Value} (H : HMid w wx P k d hs me mv #[c0, c1, c2, c3, c4, c5, c6] L u0 u1 u2 u3 u4 u5 u6 sv) :
    (wx.cell? ⟨w.heap.size, 0, none⟩ = some c0 ∧ wx.cell? ⟨w.heap.size, 1, none⟩ = some c1 ∧ wx.cell? ⟨w.heap.size, 2, none⟩ = some c2 ∧ wx.cell? ⟨w.heap.size, 3, none⟩ = some c3 ∧ wx.cell? ⟨w.heap.size, 4, none⟩ = some c4 ∧ wx.cell? ⟨w.heap.size, 5, none⟩ = some c5 ∧ wx.cell? ⟨w.heap.size, 6, none⟩ = some c6) ∧
    (wx.cell? ⟨w.heap.size + 1 + 1, 0, none⟩ = some (.int .i64 k) ∧ wx.cell? ⟨w.heap.size + 1 + 1, 1, none⟩ = some (.int .i64 d) ∧ wx.cell? ⟨w.heap.size + 1 + 1, 3, none⟩ = some mv) ∧ (w.heap.size < wx.heap.size ∧ w.heap.size + 1 < wx.heap.size ∧ w.heap.size + 1 + 1 < wx.heap.size ∧ w.heap.size + 1 + 1 + 1 < wx.heap.size) ∧ P < wx.heap.size ∧ P + 1 < wx.heap.size :=
  ⟨⟨H.hb.cell 0, H.hb.cell 1, H.hb.cell 2, H.hb.cell 3, H.hb.cell 4, H.hb.cell 5, H.hb.cell 6⟩, ⟨H.mb.cell 0, H.mb.cell 1, H.mb.cell 3⟩, ⟨H.hb.lt, H.eb.lt, H.mb.lt, H.zb.lt⟩, H.nb.lt, H.sb.lt⟩

theorem HMid.open {w wx : World} {P : Nat} {k d hs me : Int} {mv : Value} {hc : Array Value} {L : List R3} {u0 u1 u2 u3 u4 u5 u6 sv : Value} (H : HMid w wx P k d hs me mv hc L u0 u1 u2 u3 u4 u5 u6 sv) :
    ∃ (la : Option Addr) (nl lc : Nat) (t0 t1 t2 t3 : Int) (ra : Option Addr) (nr rc : Nat) (da : Option Addr) (nd dc : Nat), u0 = .slice la nl lc ∧ u1 = .int .i64 t0 ∧ u2 = .int .i64 t1 ∧ u3 = .int .i64 t2 ∧ u4 = .int .i64 t3 ∧ u5 = .slice ra nr rc ∧ u6 = .slice da nd dc ∧ nd = (houseB L).2.2.length ∧ RowAt 1 encI wx da (houseB L).2.2 := by
  obtain ⟨la, nl, lc, Y, ra, nr, rc, XR, da, nd, dc, hv, -, -, h6⟩ := H.nv
  injection hv with hv
  injection hv with hv
  simp only [List.cons.injEq, and_true] at hv
  obtain ⟨e0, e1, e2, e3, e4, e5, e6⟩ := hv
  have k3 := h6.at lenI
  exact ⟨la, nl, lc, _, _, _, _, ra, nr, rc, da, nd, dc, e0, e1, e2, e3, e4, e5, e6, k3.2.1, k3.1⟩
end Go.Proofs.Ytmjekpdgmdpndaa
