import Derived.Test.YtpcnlifmkhagkaaGreatKJ11
set_option maxRecDepth 20000
set_option maxHeartbeats 20000000
namespace Go.Proofs.YtpcnlifmkhagkaaGreat
open Go.RowKit
open Value renaming slice → G, int → E
open IntKind renaming i64 → J
open Option renaming none → U
open Go renaming Hid → Q, Below → Z
attribute [local go_sem ↓] Go.wp_at_zero Go.wp_at_succ
structure zeh (w wx : World) (P : Nat) (k d hs me : Int) (mv : Value) (hc : Array Value) (L : List R3) (u0 u1 u2 u3 u4 u5 u6 sv : Value) : Prop where
 hb : Blk wx w.heap.size hc 77
 eb : Blk wx (w.heap.size + 1) #[E J me] 3
 mb : Blk wx (w.heap.size + 1 + 1) #[E J k, E J d, E J hs, mv] 25
 zb : Blk wx (w.heap.size + 1 + 1 + 1) #[G U 0 0, E J 0, E J 0, E J 0, E J 0, G U 0 0, G U 0 0] 77
 nb : Blk wx P #[u0, u1, u2, u3, u4, u5, u6] 77
 nv : zcq w.heap.size wx (.agg #[u0, u1, u2, u3, u4, u5, u6]) L (zd L)
 sb : Blk wx (P + 1) #[sv] 41
 far : w.heap.size + 1 + 1 + 1 < P
 bel : Z w.heap.size w wx
theorem zeh.below {w wx wy : World} {P : Nat} {k d hs me : Int} {mv : Value} {hc : Array Value} {L : List R3} {u0 u1 u2 u3 u4 u5 u6 sv : Value} (H : zeh w wx P k d hs me mv hc L u0 u1 u2 u3 u4 u5 u6 sv) (hb : Z wx.heap.size wx wy) : zeh w wy P k d hs me mv hc L u0 u1 u2 u3 u4 u5 u6 sv :=
 ⟨H.hb.below hb H.hb.lt, H.eb.below hb H.eb.lt, H.mb.below hb H.mb.lt, H.zb.below hb H.zb.lt, H.nb.below hb H.nb.lt, H.nv.below hb, H.sb.below hb H.sb.lt, H.far, H.bel.trans (hb.mono H.bel.size)⟩
theorem zeh.note {w wx wy : World} {P : Nat} {k d hs me : Int} {mv : Value} {hc : Array Value} {L L2 : List R3} {u0 u1 u2 u3 u4 u5 u6 v0 v1 v2 v3 v4 v5 v6 sv : Value} (H : zeh w wx P k d hs me mv hc L u0 u1 u2 u3 u4 u5 u6 sv) (hP : Blk wy P #[v0, v1, v2, v3, v4, v5, v6] 77) (hv : zcq wx.heap.size wy (.agg #[v0, v1, v2, v3, v4, v5, v6]) L2 (zd L2)) (hk : zf (fun b => b = P) wx wy) : zeh w wy P k d hs me mv hc L2 v0 v1 v2 v3 v4 v5 v6 sv := by
 have hf := H.far;exact ⟨H.hb.keep hk (by omega), H.eb.keep hk (by omega), H.mb.keep hk (by omega), H.zb.keep hk (by omega), hP, hv.mono H.bel.size, H.sb.keep hk (by omega), hf, H.bel.trans (hk.below H.bel.size (fun b hb => by omega))⟩
theorem zeh.say {w wx wy : World} {P : Nat} {k d hs me : Int} {mv : Value} {hc : Array Value} {L : List R3} {u0 u1 u2 u3 u4 u5 u6 sv tv : Value} (H : zeh w wx P k d hs me mv hc L u0 u1 u2 u3 u4 u5 u6 sv) (hS : Blk wy (P + 1) #[tv] 41) (hv : zcq w.heap.size wy (.agg #[u0, u1, u2, u3, u4, u5, u6]) L (zd L)) (hk : zf (fun b => b = P + 1) wx wy) : zeh w wy P k d hs me mv hc L u0 u1 u2 u3 u4 u5 u6 tv := by
 have hf := H.far;exact ⟨H.hb.keep hk (by omega), H.eb.keep hk (by omega), H.mb.keep hk (by omega), H.zb.keep hk (by omega), H.nb.keep hk (by omega), hv, hS, hf, H.bel.trans (hk.below H.bel.size (fun b hb => by omega))⟩
theorem zf.only {zV : TypeId} {S : Nat} {w w' : World} {cs : Array Value} (hb : Blk w S cs zV) (hk : zf (fun b => b = S) w w') : zbv zV w w' := fun b cs' t ht x => x.keep hk (fun e => by
 subst e;unfold Blk at hb x
 rw [hb] at x;injection x with x
 injection x with _ q _
 exact ht q.symm)
theorem zeh.cells {w wx : World} {P : Nat} {k d hs me : Int} {mv : Value} {c0 c1 c2 c3 c4 c5 c6 : Value} {L : List R3} {u0 u1 u2 u3 u4 u5 u6 sv : Value} (H : zeh w wx P k d hs me mv #[c0, c1, c2, c3, c4, c5, c6] L u0 u1 u2 u3 u4 u5 u6 sv) :
  (wx.cell? ⟨w.heap.size, 0, U⟩ = some c0 ∧ wx.cell? ⟨w.heap.size, 1, U⟩ = some c1 ∧ wx.cell? ⟨w.heap.size, 2, U⟩ = some c2 ∧ wx.cell? ⟨w.heap.size, 3, U⟩ = some c3 ∧ wx.cell? ⟨w.heap.size, 4, U⟩ = some c4 ∧ wx.cell? ⟨w.heap.size, 5, U⟩ = some c5 ∧ wx.cell? ⟨w.heap.size, 6, U⟩ = some c6) ∧
  (wx.cell? ⟨w.heap.size + 1 + 1, 0, U⟩ = some (E J k) ∧ wx.cell? ⟨w.heap.size + 1 + 1, 1, U⟩ = some (E J d) ∧ wx.cell? ⟨w.heap.size + 1 + 1, 3, U⟩ = some mv) ∧ (w.heap.size < wx.heap.size ∧ w.heap.size + 1 < wx.heap.size ∧ w.heap.size + 1 + 1 < wx.heap.size ∧ w.heap.size + 1 + 1 + 1 < wx.heap.size) ∧ P < wx.heap.size ∧ P + 1 < wx.heap.size :=
 ⟨⟨H.hb.cell 0, H.hb.cell 1, H.hb.cell 2, H.hb.cell 3, H.hb.cell 4, H.hb.cell 5, H.hb.cell 6⟩, ⟨H.mb.cell 0, H.mb.cell 1, H.mb.cell 3⟩, ⟨H.hb.lt, H.eb.lt, H.mb.lt, H.zb.lt⟩, H.nb.lt, H.sb.lt⟩
theorem zeh.open {w wx : World} {P : Nat} {k d hs me : Int} {mv : Value} {hc : Array Value} {L : List R3} {u0 u1 u2 u3 u4 u5 u6 sv : Value} (H : zeh w wx P k d hs me mv hc L u0 u1 u2 u3 u4 u5 u6 sv) :
  ∃ (la : Option Addr) (nl lc : Nat) (t0 t1 t2 t3 : Int) (ra : Option Addr) (nr rc : Nat) (da : Option Addr) (nd dc : Nat), u0 = G la nl lc ∧ u1 = E J t0 ∧ u2 = E J t1 ∧ u3 = E J t2 ∧ u4 = E J t3 ∧ u5 = G ra nr rc ∧ u6 = G da nd dc ∧ nd = (zd L).2.2.length ∧ zi 1 zn wx da (zd L).2.2 := by
 obtain ⟨la, nl, lc, Y, ra, nr, rc, XR, da, nd, dc, hv, -, -, h6⟩ := H.nv;injection hv with hv
 injection hv with hv
 simp only [List.cons.injEq, and_true] at hv
 obtain ⟨e0, e1, e2, e3, e4, e5, e6⟩ := hv;have k3 := h6.at zah;exact ⟨la, nl, lc, _, _, _, _, ra, nr, rc, da, nd, dc, e0, e1, e2, e3, e4, e5, e6, k3.2.1, k3.1⟩
end Go.Proofs.YtpcnlifmkhagkaaGreat
