/- What house.Hear does, called at a house and a message that lie in memory. -/
import Derived.Test.YtikmnaegalmfeaaKHous3
import Derived.Test.YtikmnaegalmfeaaKHousU
namespace Go.Proofs.Ytikmnaegalmfeaa
open Go.RowKit
attribute [local go_sem ↓] Go.wp_at_zero Go.wp_at_succ

/-- A message without parts, as it lies. -/
def msgX (q : Q4) : XM := (q.1, q.2.1, q.2.2.1, (none, 0), [])
/-- On the way: h lies in block N, me in the next one, m in the third, the answer in the fourth; now in block P, said in the next one. -/
structure HMid (w wx : World) (P : Nat) (k d hs me : Int) (mv : Value) (hc : Array Value) (L : List R3) (u0 u1 u2 u3 u4 u5 u6 sv : Value) : Prop where
  hb : Blk wx w.heap.size hc 31
  eb : Blk wx (w.heap.size + 1) #[.int .i64 me] 3
  mb : Blk wx (w.heap.size + 1 + 1) #[.int .i64 k, .int .i64 d, .int .i64 hs, mv] 25
  zb : Blk wx (w.heap.size + 1 + 1 + 1) #[.slice none 0 0, .int .i64 0, .int .i64 0, .int .i64 0, .int .i64 0, .slice none 0 0, .slice none 0 0] 31
  nb : Blk wx P #[u0, u1, u2, u3, u4, u5, u6] 31
  nv : HouseN w.heap.size wx (.agg #[u0, u1, u2, u3, u4, u5, u6]) L (houseB L)
  sb : Blk wx (P + 1) #[sv] 33
  far : w.heap.size + 1 + 1 + 1 < P
  bel : Below w.heap.size w wx
theorem HMid.below {w wx wy : World} {P : Nat} {k d hs me : Int} {mv : Value} {hc : Array Value} {L : List R3} {u0 u1 u2 u3 u4 u5 u6 sv : Value} (H : HMid w wx P k d hs me mv hc L u0 u1 u2 u3 u4 u5 u6 sv) (hb : Below wx.heap.size wx wy) : HMid w wy P k d hs me mv hc L u0 u1 u2 u3 u4 u5 u6 sv :=
  ⟨H.hb.below hb H.hb.lt, H.eb.below hb H.eb.lt, H.mb.below hb H.mb.lt, H.zb.below hb H.zb.lt, H.nb.below hb H.nb.lt, H.nv.below hb, H.sb.below hb H.sb.lt, H.far, H.bel.trans (hb.mono H.bel.size)⟩
/-- Another house is now. -/
theorem HMid.note {w wx wy : World} {P : Nat} {k d hs me : Int} {mv : Value} {hc : Array Value} {L L2 : List R3} {u0 u1 u2 u3 u4 u5 u6 v0 v1 v2 v3 v4 v5 v6 sv : Value} (H : HMid w wx P k d hs me mv hc L u0 u1 u2 u3 u4 u5 u6 sv) (hP : Blk wy P #[v0, v1, v2, v3, v4, v5, v6] 31) (hv : HouseN wx.heap.size wy (.agg #[v0, v1, v2, v3, v4, v5, v6]) L2 (houseB L2)) (hk : Keep (fun b => b = P) wx wy) : HMid w wy P k d hs me mv hc L2 v0 v1 v2 v3 v4 v5 v6 sv := by
  have hf := H.far
  exact ⟨H.hb.keep hk (by omega), H.eb.keep hk (by omega), H.mb.keep hk (by omega), H.zb.keep hk (by omega), hP, hv.mono H.bel.size, H.sb.keep hk (by omega), hf, H.bel.trans (hk.below H.bel.size (fun b hb => by omega))⟩
/-- Something is said. -/
theorem HMid.say {w wx wy : World} {P : Nat} {k d hs me : Int} {mv : Value} {hc : Array Value} {L : List R3} {u0 u1 u2 u3 u4 u5 u6 sv tv : Value} (H : HMid w wx P k d hs me mv hc L u0 u1 u2 u3 u4 u5 u6 sv) (hS : Blk wy (P + 1) #[tv] 33) (hv : HouseN w.heap.size wy (.agg #[u0, u1, u2, u3, u4, u5, u6]) L (houseB L)) (hk : Keep (fun b => b = P + 1) wx wy) : HMid w wy P k d hs me mv hc L u0 u1 u2 u3 u4 u5 u6 tv := by
  have hf := H.far
  exact ⟨H.hb.keep hk (by omega), H.eb.keep hk (by omega), H.mb.keep hk (by omega), H.zb.keep hk (by omega), H.nb.keep hk (by omega), hv, hS, hf, H.bel.trans (hk.below H.bel.size (fun b hb => by omega))⟩
theorem Keep.only {T : TypeId} {S : Nat} {w w' : World} {cs : Array Value} (hb : Blk w S cs T) (hk : Keep (fun b => b = S) w w') : Only T w w' := fun b cs' t ht x => x.keep hk (fun e => by
  subst e
  unfold Blk at hb x
  rw [hb] at x
  injection x with x
  injection x with _ q _
  exact ht q.symm)
theorem HouseN.onlyS {base : Nat} {w w' : World} {v : Value} {L : List R3} {h : H3} (hh : HouseN base w v L h) (ho : Only 33 w w') : HouseN base w' v L h := by
  obtain ⟨la, nl, lc, Y, ra, nr, rc, XR, da, nd, dc, hv, ⟨h1, h2⟩, ⟨h3, h4, h5⟩, h6⟩ := hh
  exact ⟨la, nl, lc, Y, ra, nr, rc, XR, da, nd, dc, hv, ⟨h1, h2.1.only ho (by decide), fun y hy => (h2.2 y hy).calm (ho.calm (by decide))⟩, ⟨h3, h4.only ho (by decide), fun x hx => (h5 x hx).calm (ho.calm (by decide))⟩, h6.only ho (by decide)⟩
/-- The cells of h, of m. -/
theorem HMid.cells {w wx : World} {P : Nat} {k d hs me : Int} {mv : Value} {c0 c1 c2 c3 c4 c5 c6 : Value} {L : List R3} {u0 u1 u2 u3 u4 u5 u6 sv : Value} (H : HMid w wx P k d hs me mv #[c0, c1, c2, c3, c4, c5, c6] L u0 u1 u2 u3 u4 u5 u6 sv) :
    (wx.cell? ⟨w.heap.size, 0, none⟩ = some c0 ∧ wx.cell? ⟨w.heap.size, 1, none⟩ = some c1 ∧ wx.cell? ⟨w.heap.size, 2, none⟩ = some c2 ∧ wx.cell? ⟨w.heap.size, 3, none⟩ = some c3 ∧ wx.cell? ⟨w.heap.size, 4, none⟩ = some c4 ∧ wx.cell? ⟨w.heap.size, 5, none⟩ = some c5 ∧ wx.cell? ⟨w.heap.size, 6, none⟩ = some c6) ∧
    (wx.cell? ⟨w.heap.size + 1 + 1, 0, none⟩ = some (.int .i64 k) ∧ wx.cell? ⟨w.heap.size + 1 + 1, 1, none⟩ = some (.int .i64 d) ∧ wx.cell? ⟨w.heap.size + 1 + 1, 3, none⟩ = some mv) ∧ (w.heap.size < wx.heap.size ∧ w.heap.size + 1 < wx.heap.size ∧ w.heap.size + 1 + 1 < wx.heap.size ∧ w.heap.size + 1 + 1 + 1 < wx.heap.size) ∧ P < wx.heap.size ∧ P + 1 < wx.heap.size :=
  ⟨⟨H.hb.cell 0, H.hb.cell 1, H.hb.cell 2, H.hb.cell 3, H.hb.cell 4, H.hb.cell 5, H.hb.cell 6⟩, ⟨H.mb.cell 0, H.mb.cell 1, H.mb.cell 3⟩, ⟨H.hb.lt, H.eb.lt, H.mb.lt, H.zb.lt⟩, H.nb.lt, H.sb.lt⟩

theorem HMid.open {w wx : World} {P : Nat} {k d hs me : Int} {mv : Value} {hc : Array Value} {L : List R3} {u0 u1 u2 u3 u4 u5 u6 sv : Value} (H : HMid w wx P k d hs me mv hc L u0 u1 u2 u3 u4 u5 u6 sv) :
    ∃ (la : Option Addr) (nl lc : Nat) (t0 t1 t2 t3 : Int) (ra : Option Addr) (nr rc : Nat) (da : Option Addr) (nd dc : Nat), u0 = .slice la nl lc ∧ u1 = .int .i64 t0 ∧ u2 = .int .i64 t1 ∧ u3 = .int .i64 t2 ∧ u4 = .int .i64 t3 ∧ u5 = .slice ra nr rc ∧ u6 = .slice da nd dc ∧ nd = (houseB L).2.2.length ∧ RowAt 1 encI wx da (houseB L).2.2 := by
  obtain ⟨la, nl, lc, Y, ra, nr, rc, XR, da, nd, dc, hv, -, -, h6⟩ := H.nv
  injection hv with hv
  injection hv with hv
  simp only [List.cons.injEq, and_true] at hv
  obtain ⟨e0, e1, e2, e3, e4, e5, e6⟩ := hv
  have k3 := h6.at lenI
  exact ⟨la, nl, lc, _, _, _, _, ra, nr, rc, da, nd, dc, e0, e1, e2, e3, e4, e5, e6, k3.2.1, k3.1⟩
theorem hear_1n {L : List R3} {h : H3} (hh : houseB L = h) {d : Int} {l : List P3} (me : Int) (h1 : voteB h d l = 0) (h2 : hasD h.2.1 d = false) : hearR h 1 d l = some (1, d, l) ∧ hearL L 1 d l = L ++ [(1, d, l)] ∧ hearM L me 1 d l = [(2, d, me, [])] := by
  subst hh
  have e : hearR (houseB L) 1 d l = some (1, d, l) := by unfold hearR; rw [if_pos rfl, if_pos ⟨h1, h2⟩]
  refine ⟨e, hearL_some e, ?_⟩
  unfold hearM hearS
  rw [if_pos rfl, h1, if_neg (by decide), if_pos rfl]
  rfl
theorem hear_1r {L : List R3} {h : H3} (hh : houseB L = h) {d : Int} {l : List P3} (me : Int) (h1 : voteB h d l = 0) (h2 : hasD h.2.1 d = true) : hearL L 1 d l = L ∧ hearM L me 1 d l = [(2, d, me, [])] := by
  subst hh
  refine ⟨hearL_none (hearR1_ready h2), ?_⟩
  unfold hearM hearS
  rw [if_pos rfl, h1, if_neg (by decide), if_pos rfl]
  rfl
theorem hear_1x {L : List R3} {h : H3} (hh : houseB L = h) {d : Int} {l : List P3} (me : Int) (h1 : ¬ voteB h d l = 0) : hearL L 1 d l = L ∧ hearM L me 1 d l = if voteB h d l = 10 then [] else [(3, d, me, [])] := by
  subst hh
  refine ⟨hearL_none (by unfold hearR; rw [if_pos rfl, if_neg (fun h => h1 h.1)]), ?_⟩
  unfold hearM hearS
  rw [if_pos rfl]
  by_cases h2 : voteB (houseB L) d l = 10
  · rw [if_pos h2, if_pos h2]; rfl
  · rw [if_neg h2, if_neg h2, if_neg h1]; rfl
theorem hear_4r {L : List R3} {h : H3} (hh : houseB L = h) {d : Int} (l : List P3) (me : Int) (h2 : hasD h.2.1 d = true) : hearR h 4 d l = some (2, d, []) ∧ hearL L 4 d l = L ++ [(2, d, [])] ∧ hearM L me 4 d l = [(6, d, me, [])] ∧ inI (houseB (L ++ [(2, d, [])])).2.2 d = true := by
  subst hh
  have e : hearR (houseB L) 4 d l = some (2, d, []) := by unfold hearR; rw [if_neg (by decide), if_pos rfl, if_pos h2]
  have e2 : inI (houseB (L ++ [(2, d, [])])).2.2 d = true := by rw [houseB_snoc, hstep2 h2]; show inI (_ ++ [d]) d = true; rw [inI_snoc]; simp
  refine ⟨e, hearL_some e, ?_, e2⟩
  unfold hearM hearS
  rw [if_neg (by decide), if_pos rfl, hearL_some e, e2, if_pos rfl]
  rfl
theorem hear_4n {L : List R3} {h : H3} (hh : houseB L = h) {d : Int} (l : List P3) (me : Int) (h2 : hasD h.2.1 d = false) : hearL L 4 d l = L ∧ hearM L me 4 d l = if inI h.2.2 d = true then [(6, d, me, [])] else [] := by
  subst hh
  have e := hearR4_not (l := l) h2
  refine ⟨hearL_none e, ?_⟩
  unfold hearM hearS
  rw [if_neg (by decide), if_pos rfl, hearL_none e]
  split <;> rfl
theorem hear_5r {L : List R3} {h : H3} (hh : houseB L = h) {d : Int} (l : List P3) (me : Int) (h2 : hasD h.2.1 d = true) : hearR h 5 d l = some (3, d, []) ∧ hearL L 5 d l = L ++ [(3, d, [])] ∧ hearM L me 5 d l = [] := by
  subst hh
  have e : hearR (houseB L) 5 d l = some (3, d, []) := by unfold hearR; rw [if_neg (by decide), if_neg (by decide), if_pos rfl, if_pos h2]
  refine ⟨e, hearL_some e, ?_⟩
  unfold hearM hearS
  rw [if_neg (by decide), if_neg (by decide)]
  rfl
theorem hear_5n {L : List R3} {h : H3} (hh : houseB L = h) {d : Int} (l : List P3) (me : Int) (h2 : hasD h.2.1 d = false) : hearL L 5 d l = L ∧ hearM L me 5 d l = [] := by
  subst hh
  refine ⟨hearL_none (hearR5_not h2), ?_⟩
  unfold hearM hearS
  rw [if_neg (by decide), if_neg (by decide)]
  rfl
theorem hear_0 {L : List R3} {k d : Int} (l : List P3) (me : Int) (k1 : ¬ k = 1) (k4 : ¬ k = 4) (k5 : ¬ k = 5) : hearL L k d l = L ∧ hearM L me k d l = [] := by
  refine ⟨hearL_none (by unfold hearR; rw [if_neg k1, if_neg k4, if_neg k5]), ?_⟩
  unfold hearM hearS
  rw [if_neg k1, if_neg k4]
  rfl

set_option maxRecDepth 20000 in
set_option maxHeartbeats 8000000 in
theorem hear_any (v : Value) (L : List R3) (me k d hs : Int) (ma : Option Addr) (nm cm : Nat) (l : List P3) (w : World) (hv : HouseU w v L (houseB L)) (hnm : nm = l.length) (hq : PartsAt w ma l) (hok : OkP l) (hcl : CalcL L) (hpos : ∀ x ∈ (houseB L).2.1, 0 ≤ x.1) (hC : ∀ r, hearR (houseB L) k d l = some r → CalcL (L ++ [r])) :
    Calls Try.prog 9 #[v, .int .i64 me, .agg #[.int .i64 k, .int .i64 d, .int .i64 hs, .slice ma nm cm]] w fun e w' => ∃ v' sa sn sc, e = .returned (.tuple #[v', .slice sa sn sc]) ∧ HouseN w.heap.size w' v' (hearL L k d l) (houseB (hearL L k d l)) ∧ OwnL 25 4 encM w' w.heap.size (.slice sa sn sc) ((hearM L me k d l).map msgX) ∧ Below w.heap.size w w' := by
  have hinv := houseB_inv hcl.ok
  have hwi := hcl.within L.length (Nat.le_refl _)
  rw [List.take_length] at hwi
  have hL40 : L.length ≤ 3518437208883 := by have := hcl.size; omega
  obtain ⟨la, nl, lc, Y, ra, nr, rc, XR, da, nd, dc, rfl, ⟨hnl, hYL, hrec⟩, ⟨hnr, hXD, hdeeds⟩, hnd, hdone⟩ := hv
  have HL : Hid (∀ r, hearR (houseB L) k d l = some r → CalcL (L ++ [r])) := hC
  have HM0 : Hid (hearL L k d l = L ++ (hearR (houseB L) k d l).toList) := rfl
  generalize hhb : houseB L = h at *
  have HHB : Hid (houseB L = h) := hhb
  obtain ⟨⟨s0, s1, s2, s3⟩, D, dn⟩ := h
  simp only at hXD hnd hdone ⊢
  have hrdy : RdyAt w ra nr XR D := ⟨hnr, by have := hinv.few; rw [← hXD, List.length_map] at this; omega, fun x hx => by
    have h1 := (hinv.ok (stripD x) (by show _ ∈ D; rw [← hXD]; exact List.mem_map.2 ⟨x, hx, rfl⟩)).1
    have h2 : x.2.2.length ≤ 4 := h1
    omega, hdeeds, hXD⟩
  have HN : Hid ((nl = Y.length ∧ Y.map stripL = L ∧ RecsAt w la Y ∧ CalcL L) ∧ RdyAt w ra nr XR D ∧ (nd = dn.length ∧ dn.length ≤ 3518437208883 ∧ RowAt 1 encI w da dn) ∧ (nm = l.length ∧ PartsAt w ma l ∧ OkP l) ∧ HInv L.length ((s0, s1, s2, s3), D, dn) ∧ Within 2199023255552 (s0, s1, s2, s3) ∧ (∀ x ∈ D, 0 ≤ x.1)) :=
    ⟨⟨by rw [hnl, ← hYL, List.length_map], hYL, hrec, hcl⟩, hrdy, ⟨hnd, by have h1 : dn.length ≤ L.length := hinv.done; omega, hdone⟩, ⟨hnm, hq, hok⟩, hinv, hwi, hpos⟩
  have HXl : Hid (XR.length ≤ 3518437208883) := by
    have h1 : D.length ≤ L.length := hinv.few
    have h3 : XR.length = D.length := by rw [← hXD, List.length_map]
    show _ ≤ _
    omega
  clear hinv hwi hnl hYL hrec hnr hXD hdeeds hnd hdone hhb hrdy hnm hq hok hcl hpos hC
  have hb0 : Below w.heap.size w ((((w.alloc (.cells #[.slice la nl lc, .int .i64 s0, .int .i64 s1, .int .i64 s2, .int .i64 s3, .slice ra nr rc, .slice da nd dc] 31)).alloc (.cells #[.int .i64 me] 3)).alloc (.cells #[.int .i64 k, .int .i64 d, .int .i64 hs, .slice ma nm cm] 25)).alloc (.cells #[.slice none 0 0, .int .i64 0, .int .i64 0, .int .i64 0, .int .i64 0, .slice none 0 0, .slice none 0 0] 31)) := (below3 w _ _ _).alloc (by simp; omega) _
  have hh0 : Blk ((((w.alloc (.cells #[.slice la nl lc, .int .i64 s0, .int .i64 s1, .int .i64 s2, .int .i64 s3, .slice ra nr rc, .slice da nd dc] 31)).alloc (.cells #[.int .i64 me] 3)).alloc (.cells #[.int .i64 k, .int .i64 d, .int .i64 hs, .slice ma nm cm] 25)).alloc (.cells #[.slice none 0 0, .int .i64 0, .int .i64 0, .int .i64 0, .int .i64 0, .slice none 0 0, .slice none 0 0] 31)) w.heap.size #[.slice la nl lc, .int .i64 s0, .int .i64 s1, .int .i64 s2, .int .i64 s3, .slice ra nr rc, .slice da nd dc] 31 := (((Blk.new w _ _).alloc _).alloc _).alloc _
  have he0 : Blk ((((w.alloc (.cells #[.slice la nl lc, .int .i64 s0, .int .i64 s1, .int .i64 s2, .int .i64 s3, .slice ra nr rc, .slice da nd dc] 31)).alloc (.cells #[.int .i64 me] 3)).alloc (.cells #[.int .i64 k, .int .i64 d, .int .i64 hs, .slice ma nm cm] 25)).alloc (.cells #[.slice none 0 0, .int .i64 0, .int .i64 0, .int .i64 0, .int .i64 0, .slice none 0 0, .slice none 0 0] 31)) (w.heap.size + 1) #[.int .i64 me] 3 := Blk.alloc (Blk.alloc (heap2 w _ _) _) _
  have hm0 : Blk ((((w.alloc (.cells #[.slice la nl lc, .int .i64 s0, .int .i64 s1, .int .i64 s2, .int .i64 s3, .slice ra nr rc, .slice da nd dc] 31)).alloc (.cells #[.int .i64 me] 3)).alloc (.cells #[.int .i64 k, .int .i64 d, .int .i64 hs, .slice ma nm cm] 25)).alloc (.cells #[.slice none 0 0, .int .i64 0, .int .i64 0, .int .i64 0, .int .i64 0, .slice none 0 0, .slice none 0 0] 31)) (w.heap.size + 1 + 1) #[.int .i64 k, .int .i64 d, .int .i64 hs, .slice ma nm cm] 25 := (heap3a w _ _ _ rfl).alloc _
  have hz0 : Blk ((((w.alloc (.cells #[.slice la nl lc, .int .i64 s0, .int .i64 s1, .int .i64 s2, .int .i64 s3, .slice ra nr rc, .slice da nd dc] 31)).alloc (.cells #[.int .i64 me] 3)).alloc (.cells #[.int .i64 k, .int .i64 d, .int .i64 hs, .slice ma nm cm] 25)).alloc (.cells #[.slice none 0 0, .int .i64 0, .int .i64 0, .int .i64 0, .int .i64 0, .slice none 0 0, .slice none 0 0] 31)) (w.heap.size + 1 + 1 + 1) #[.slice none 0 0, .int .i64 0, .int .i64 0, .int .i64 0, .int .i64 0, .slice none 0 0, .slice none 0 0] 31 := by
    have h := heap3a (w.alloc (.cells #[.slice la nl lc, .int .i64 s0, .int .i64 s1, .int .i64 s2, .int .i64 s3, .slice ra nr rc, .slice da nd dc] 31)) (.cells #[.int .i64 me] 3) (.cells #[.int .i64 k, .int .i64 d, .int .i64 hs, .slice ma nm cm] 25) (.cells #[.slice none 0 0, .int .i64 0, .int .i64 0, .int .i64 0, .int .i64 0, .slice none 0 0, .slice none 0 0] 31) rfl
    rw [show (w.alloc (.cells #[.slice la nl lc, .int .i64 s0, .int .i64 s1, .int .i64 s2, .int .i64 s3, .slice ra nr rc, .slice da nd dc] 31)).heap.size = w.heap.size + 1 by simp] at h
    exact h
  go_enter Try.func9, Try.ntmps9
  go_wp2_with fail
  generalize ((((w.alloc (.cells #[.slice la nl lc, .int .i64 s0, .int .i64 s1, .int .i64 s2, .int .i64 s3, .slice ra nr rc, .slice da nd dc] 31)).alloc (.cells #[.int .i64 me] 3)).alloc (.cells #[.int .i64 k, .int .i64 d, .int .i64 hs, .slice ma nm cm] 25)).alloc (.cells #[.slice none 0 0, .int .i64 0, .int .i64 0, .int .i64 0, .int .i64 0, .slice none 0 0, .slice none 0 0] 31)) = W at *
  refine (hown_any la ra da nl lc nr rc nd dc s0 s1 s2 s3 Y XR D dn W HN.out.1.1 (by have := HN.out.1.2.1; rw [← this, List.length_map] at hL40; exact hL40) (by rw [HN.out.1.2.1]; exact HN.out.1.2.2.2.ok) (HN.out.1.2.2.1.below hb0) (HN.out.2.1.below hb0) HXl.out (fun x hx => HN.out.2.2.2.2.1.ok (stripD x) (by show _ ∈ D; rw [← HN.out.2.1.says]; exact List.mem_map.2 ⟨x, hx, rfl⟩)) HN.out.2.2.1.1 HN.out.2.2.1.2.1 (HN.out.2.2.1.2.2.below hb0)).mono ?_
  rintro e w1 ⟨v1, rfl, hh1, hb1⟩
  rw [HN.out.1.2.1] at hh1
  have hh2 := hh1
  obtain ⟨la1, nl1, lc1, Y1, ra1, nr1, rc1, XR1, da1, nd1, dc1, rfl, -⟩ := hh2
  have hb2 := below2 w1 (.cells #[.slice la1 nl1 lc1, .int .i64 s0, .int .i64 s1, .int .i64 s2, .int .i64 s3, .slice ra1 nr1 rc1, .slice da1 nd1 dc1] 31) (.cells #[.slice none 0 0] 33)
  have HMD : Hid (HMid w ((w1.alloc (.cells #[.slice la1 nl1 lc1, .int .i64 s0, .int .i64 s1, .int .i64 s2, .int .i64 s3, .slice ra1 nr1 rc1, .slice da1 nd1 dc1] 31)).alloc (.cells #[.slice none 0 0] 33)) w1.heap.size k d hs me (.slice ma nm cm) #[.slice la nl lc, .int .i64 s0, .int .i64 s1, .int .i64 s2, .int .i64 s3, .slice ra nr rc, .slice da nd dc] L (.slice la1 nl1 lc1) (.int .i64 s0) (.int .i64 s1) (.int .i64 s2) (.int .i64 s3) (.slice ra1 nr1 rc1) (.slice da1 nd1 dc1) (.slice none 0 0)) := by
    have hc := hb1.trans (hb2.mono hb1.size)
    refine ⟨hh0.below hc hh0.lt, he0.below hc he0.lt, hm0.below hc hm0.lt, hz0.below hc hz0.lt, (Blk.new w1 _ _).alloc _, ?_, heap2 w1 _ _, Nat.lt_of_lt_of_le hz0.lt hb1.size, hb0.trans (hc.mono hb0.size)⟩
    rw [HHB.out]
    exact (hh1.mono hb0.size).below hb2
  have hsr : w.heap.size + 1 + 1 + 1 < w1.heap.size := Nat.lt_of_lt_of_le hz0.lt hb1.size
  clear hh0 he0 hm0 hz0 hh1 hb0 hb1
  obtain ⟨⟨q0, q1, q2, q3, q4, q5, q6⟩, ⟨r0, r1, r3⟩, ⟨l0, l1, l2, l3⟩, l4, l5⟩ := HMD.out.cells
  clear hb2
  go_wp2_with fail
  clear q0 q1 q2 q3 q4 q5 q6 r0 r1 r3 l0 l1 l2 l3 l4 l5
  generalize ((w1.alloc (.cells #[.slice la1 nl1 lc1, .int .i64 s0, .int .i64 s1, .int .i64 s2, .int .i64 s3, .slice ra1 nr1 rc1, .slice da1 nd1 dc1] 31)).alloc (.cells #[.slice none 0 0] 33)) = V at *
  refine (isReady_any la ra da nl lc nr rc nd dc s0 s1 s2 s3 d XR D V (HN.out.2.1.below HMD.out.bel)).mono ?_
  rintro e w2 ⟨rfl, hb2⟩
  have HM2 : Hid (HMid w w2 w1.heap.size k d hs me (.slice ma nm cm) #[.slice la nl lc, .int .i64 s0, .int .i64 s1, .int .i64 s2, .int .i64 s3, .slice ra nr rc, .slice da nd dc] L (.slice la1 nl1 lc1) (.int .i64 s0) (.int .i64 s1) (.int .i64 s2) (.int .i64 s3) (.slice ra1 nr1 rc1) (.slice da1 nd1 dc1) (.slice none 0 0)) := HMD.out.below hb2
  clear HMD hb2
  generalize hz : hasD D d = rd at *
  have HZ : Hid (hasD D d = rd) := hz
  clear hz
  generalize w1.heap.size = P at *
  obtain ⟨⟨q0, q1, q2, q3, q4, q5, q6⟩, ⟨r0, r1, r3⟩, ⟨l0, l1, l2, l3⟩, l4, l5⟩ := HM2.out.cells
  by_cases k1 : k = 1
  · subst k1
    go_wp2_with fail
    clear q0 q1 q2 q3 q4 q5 q6 r0 r1 r3 l0 l1 l2 l3 l4 l5
    refine (vote_any la ra da ma nl lc nr rc nd dc nm cm s0 s1 s2 s3 d XR D dn l w2 (HN.out.2.1.below HM2.out.bel) HN.out.2.2.1.1 (by have := HN.out.2.2.1.2.1; omega) (HN.out.2.2.1.2.2.below HM2.out.bel) HN.out.2.2.2.1.1 HN.out.2.2.2.1.2.2 (HN.out.2.2.2.1.2.1.below HM2.out.bel) HN.out.2.2.2.2.2.1 HN.out.2.2.2.2.2.2).mono ?_
    rintro e w3 ⟨rfl, hb3⟩
    have HM3 : Hid _ := HM2.out.below hb3
    clear HM2 hb3
    obtain ⟨⟨q0, q1, q2, q3, q4, q5, q6⟩, ⟨r0, r1, r3⟩, ⟨l0, l1, l2, l3⟩, l4, l5⟩ := HM3.out.cells
    generalize hvv : voteB ((s0, s1, s2, s3), D, dn) d l = vt at *
    have HVV : Hid (voteB ((s0, s1, s2, s3), D, dn) d l = vt) := hvv
    clear hvv
    by_cases v0 : vt = 0
    · subst v0
      cases rd
      · have HP : Hid _ := hear_1n HHB.out me HVV.out HZ.out
        go_wp2_with fail
        clear q0 q1 q2 q3 q4 q5 q6 r0 r1 r3 l0 l1 l2 l3 l4 l5
        refine (hnote_any w.heap.size (w.heap.size + 1 + 1) P 1 _ d hs (.slice ma nm cm) la ra da nl lc nr rc nd dc s0 s1 s2 s3 Y ma nm cm l _ _ _ _ _ _ _ w3 HM3.out.hb HM3.out.mb HM3.out.nb HN.out.1.1 HN.out.2.2.2.1.1 (by rw [HN.out.1.2.1]; exact HL.out _ HP.out.1) (HN.out.1.2.2.1.below HM3.out.bel) (HN.out.2.2.2.1.2.1.below HM3.out.bel)).mono ?_
        rintro e w4 ⟨rfl, u0, u1, u2, u3, u4, u5, u6, hP, hV, hK⟩
        rw [HN.out.1.2.1] at hV
        have HM4 : Hid _ := HMid.note HM3.out hP hV hK
        clear hP hV hK
        obtain ⟨⟨q0, q1, q2, q3, q4, q5, q6⟩, ⟨r0, r1, r3⟩, ⟨l0, l1, l2, l3⟩, l4, l5⟩ := HM4.out.cells
        go_wp2_with fail
        clear q0 q1 q2 q3 q4 q5 q6 r0 r1 r3 l0 l1 l2 l3 l4 l5
        refine (say_any (P + 1) (w.heap.size + 1 + 1) (w.heap.size + 1) w.heap.size 2 _ d hs me (.slice ma nm cm) none 0 0 [] w4 HM4.out.sb HM4.out.mb HM4.out.eb (OwnL.nil _ _) HM4.out.bel.size (by simp)).mono ?_
        rintro e w5 ⟨rfl, sa, sn, sc, hS, hO, hK⟩
        have hK2 : Keep (fun b => b = P + 1) w4 w5 := hK.mono (fun b _ hb => hb.elim id (fun h => by cases h))
        have HMS : Hid _ := HMid.say HM4.out hS (HM4.out.nv.onlyS (Keep.only HM4.out.sb hK2)) hK2
        have HX : Hid _ := And.intro HP.out.2.1 (And.intro HP.out.2.2 (show OwnL 25 4 encM w5 w.heap.size (.slice sa sn sc) (([(2, d, me, [])] : List Q4).map msgX) from hO))
        clear hS hO hK hK2
        go_upto_region 23 with fail

        obtain ⟨la9, nl9, lc9, t0, t1, t2, t3, ra9, nr9, rc9, da9, nd9, dc9, rfl, rfl, rfl, rfl, rfl, rfl, rfl, -, -⟩ := HMS.out.open
        obtain ⟨⟨b0, b1, b2, b3, b4, b5, b6⟩, -⟩ := zcells HMS.out.nb
        obtain ⟨⟨n0, n1, n2, n3, n4, n5, n6⟩, f0, f1, f2, f3, f4, f5, f6⟩ := zcells HMS.out.zb
        have g0 := HMS.out.sb.cell 0
        have gl := HMS.out.sb.lt
        have gp := HMS.out.nb.lt
        have gz := HMS.out.zb.lt
        simp at g0
        obtain ⟨hW9, hOnly9⟩ := fill7 HMS.out.zb (.slice la9 nl9 lc9) (.int .i64 t0) (.int .i64 t1) (.int .i64 t2) (.int .i64 t3) (.slice ra9 nr9 rc9) (.slice da9 nd9 dc9)
        have hK9 := (fill7K HMS.out.zb (.slice la9 nl9 lc9) (.int .i64 t0) (.int .i64 t1) (.int .i64 t2) (.int .i64 t3) (.slice ra9 nr9 rc9) (.slice da9 nd9 dc9)).2
        have HF : Hid _ := And.intro hW9 (And.intro (HMS.out.nv.only hOnly9) (And.intro (HX.out.2.2.only hOnly9 (by decide)) (HMS.out.bel.trans (hK9.below HMS.out.bel.size (fun b hb => by omega)))))
        clear hW9 hOnly9 hK9
        go_region
        all_goals
          clear b0 b1 b2 b3 b4 b5 b6 n0 n1 n2 n3 n4 n5 n6 f0 f1 f2 f3 f4 f5 f6 g0
          go_wp2_with fail
          generalize (((((((w5.setCell ⟨w.heap.size + 1 + 1 + 1, 0, none⟩ (.slice la9 nl9 lc9)).setCell ⟨w.heap.size + 1 + 1 + 1, 1, none⟩ (.int .i64 t0)).setCell ⟨w.heap.size + 1 + 1 + 1, 2, none⟩ (.int .i64 t1)).setCell ⟨w.heap.size + 1 + 1 + 1, 3, none⟩ (.int .i64 t2)).setCell ⟨w.heap.size + 1 + 1 + 1, 4, none⟩ (.int .i64 t3)).setCell ⟨w.heap.size + 1 + 1 + 1, 5, none⟩ (.slice ra9 nr9 rc9)).setCell ⟨w.heap.size + 1 + 1 + 1, 6, none⟩ (.slice da9 nd9 dc9)) = Z at *
          have hZd : Below Z.heap.size Z Z.drew := (Below.refl _ _).drew
          obtain ⟨⟨e0, e1, e2, e3, e4, e5, e6⟩, -⟩ := zcells (Blk.drew HF.out.1)
          refine bodyPost_ret (v := .tuple #[.agg #[.slice la9 nl9 lc9, .int .i64 t0, .int .i64 t1, .int .i64 t2, .int .i64 t3, .slice ra9 nr9 rc9, .slice da9 nd9 dc9], .slice sa sn sc]) ?_ rfl ⟨_, sa, sn, sc, rfl, by rw [HX.out.1]; exact HF.out.2.1.below hZd, by rw [HX.out.2.1]; exact HF.out.2.2.1.below hZd (Nat.le_refl _), HF.out.2.2.2.drew⟩
          simp [results, Try.results9, go_sem, e0, e1, e2, e3, e4, e5, e6]
      · have HP : Hid _ := hear_1r HHB.out me HVV.out HZ.out
        go_wp2_with fail
        clear q0 q1 q2 q3 q4 q5 q6 r0 r1 r3 l0 l1 l2 l3 l4 l5
        refine (say_any (P + 1) (w.heap.size + 1 + 1) (w.heap.size + 1) w.heap.size 2 _ d hs me (.slice ma nm cm) none 0 0 [] w3 HM3.out.sb HM3.out.mb HM3.out.eb (OwnL.nil _ _) HM3.out.bel.size (by simp)).mono ?_
        rintro e w5 ⟨rfl, sa, sn, sc, hS, hO, hK⟩
        have hK2 : Keep (fun b => b = P + 1) w3 w5 := hK.mono (fun b _ hb => hb.elim id (fun h => by cases h))
        have HMS : Hid _ := HMid.say HM3.out hS (HM3.out.nv.onlyS (Keep.only HM3.out.sb hK2)) hK2
        have HX : Hid _ := And.intro HP.out.1 (And.intro HP.out.2 (show OwnL 25 4 encM w5 w.heap.size (.slice sa sn sc) (([(2, d, me, [])] : List Q4).map msgX) from hO))
        clear hS hO hK hK2
        go_upto_region 23 with fail

        obtain ⟨⟨b0, b1, b2, b3, b4, b5, b6⟩, -⟩ := zcells HMS.out.nb
        obtain ⟨⟨n0, n1, n2, n3, n4, n5, n6⟩, f0, f1, f2, f3, f4, f5, f6⟩ := zcells HMS.out.zb
        have g0 := HMS.out.sb.cell 0
        have gl := HMS.out.sb.lt
        have gp := HMS.out.nb.lt
        have gz := HMS.out.zb.lt
        simp at g0
        obtain ⟨hW9, hOnly9⟩ := fill7 HMS.out.zb (.slice la1 nl1 lc1) (.int .i64 s0) (.int .i64 s1) (.int .i64 s2) (.int .i64 s3) (.slice ra1 nr1 rc1) (.slice da1 nd1 dc1)
        have hK9 := (fill7K HMS.out.zb (.slice la1 nl1 lc1) (.int .i64 s0) (.int .i64 s1) (.int .i64 s2) (.int .i64 s3) (.slice ra1 nr1 rc1) (.slice da1 nd1 dc1)).2
        have HF : Hid _ := And.intro hW9 (And.intro (HMS.out.nv.only hOnly9) (And.intro (HX.out.2.2.only hOnly9 (by decide)) (HMS.out.bel.trans (hK9.below HMS.out.bel.size (fun b hb => by omega)))))
        clear hW9 hOnly9 hK9
        go_region
        all_goals
          clear b0 b1 b2 b3 b4 b5 b6 n0 n1 n2 n3 n4 n5 n6 f0 f1 f2 f3 f4 f5 f6 g0
          go_wp2_with fail
          generalize (((((((w5.setCell ⟨w.heap.size + 1 + 1 + 1, 0, none⟩ (.slice la1 nl1 lc1)).setCell ⟨w.heap.size + 1 + 1 + 1, 1, none⟩ (.int .i64 s0)).setCell ⟨w.heap.size + 1 + 1 + 1, 2, none⟩ (.int .i64 s1)).setCell ⟨w.heap.size + 1 + 1 + 1, 3, none⟩ (.int .i64 s2)).setCell ⟨w.heap.size + 1 + 1 + 1, 4, none⟩ (.int .i64 s3)).setCell ⟨w.heap.size + 1 + 1 + 1, 5, none⟩ (.slice ra1 nr1 rc1)).setCell ⟨w.heap.size + 1 + 1 + 1, 6, none⟩ (.slice da1 nd1 dc1)) = Z at *
          have hZd : Below Z.heap.size Z Z.drew := (Below.refl _ _).drew
          obtain ⟨⟨e0, e1, e2, e3, e4, e5, e6⟩, -⟩ := zcells (Blk.drew HF.out.1)
          refine bodyPost_ret (v := .tuple #[.agg #[.slice la1 nl1 lc1, .int .i64 s0, .int .i64 s1, .int .i64 s2, .int .i64 s3, .slice ra1 nr1 rc1, .slice da1 nd1 dc1], .slice sa sn sc]) ?_ rfl ⟨_, sa, sn, sc, rfl, by rw [HX.out.1]; exact HF.out.2.1.below hZd, by rw [HX.out.2.1]; exact HF.out.2.2.1.below hZd (Nat.le_refl _), HF.out.2.2.2.drew⟩
          simp [results, Try.results9, go_sem, e0, e1, e2, e3, e4, e5, e6]
    · have HP0 := hear_1x HHB.out me (d := d) (l := l) (by rw [HVV.out]; exact v0)
      rw [HVV.out] at HP0
      by_cases v10 : vt = 10
      · subst v10
        rw [if_pos rfl] at HP0
        have HP : Hid _ := HP0
        clear HP0 v0
        have HX : Hid _ := And.intro HP.out.1 (And.intro HP.out.2 (show OwnL 25 4 encM w3 w.heap.size (.slice none 0 0) (([] : List Q4).map msgX) from OwnL.nil _ _))
        go_upto_region 23 with fail
        clear q0 q1 q2 q3 q4 q5 q6 r0 r1 r3 l0 l1 l2 l3 l4 l5

        obtain ⟨⟨b0, b1, b2, b3, b4, b5, b6⟩, -⟩ := zcells HM3.out.nb
        obtain ⟨⟨n0, n1, n2, n3, n4, n5, n6⟩, f0, f1, f2, f3, f4, f5, f6⟩ := zcells HM3.out.zb
        have g0 := HM3.out.sb.cell 0
        have gl := HM3.out.sb.lt
        have gp := HM3.out.nb.lt
        have gz := HM3.out.zb.lt
        simp at g0
        obtain ⟨hW9, hOnly9⟩ := fill7 HM3.out.zb (.slice la1 nl1 lc1) (.int .i64 s0) (.int .i64 s1) (.int .i64 s2) (.int .i64 s3) (.slice ra1 nr1 rc1) (.slice da1 nd1 dc1)
        have hK9 := (fill7K HM3.out.zb (.slice la1 nl1 lc1) (.int .i64 s0) (.int .i64 s1) (.int .i64 s2) (.int .i64 s3) (.slice ra1 nr1 rc1) (.slice da1 nd1 dc1)).2
        have HF : Hid _ := And.intro hW9 (And.intro (HM3.out.nv.only hOnly9) (And.intro (HX.out.2.2.only hOnly9 (by decide)) (HM3.out.bel.trans (hK9.below HM3.out.bel.size (fun b hb => by omega)))))
        clear hW9 hOnly9 hK9
        go_region
        all_goals
          clear b0 b1 b2 b3 b4 b5 b6 n0 n1 n2 n3 n4 n5 n6 f0 f1 f2 f3 f4 f5 f6 g0
          go_wp2_with fail
          generalize (((((((w3.setCell ⟨w.heap.size + 1 + 1 + 1, 0, none⟩ (.slice la1 nl1 lc1)).setCell ⟨w.heap.size + 1 + 1 + 1, 1, none⟩ (.int .i64 s0)).setCell ⟨w.heap.size + 1 + 1 + 1, 2, none⟩ (.int .i64 s1)).setCell ⟨w.heap.size + 1 + 1 + 1, 3, none⟩ (.int .i64 s2)).setCell ⟨w.heap.size + 1 + 1 + 1, 4, none⟩ (.int .i64 s3)).setCell ⟨w.heap.size + 1 + 1 + 1, 5, none⟩ (.slice ra1 nr1 rc1)).setCell ⟨w.heap.size + 1 + 1 + 1, 6, none⟩ (.slice da1 nd1 dc1)) = Z at *
          have hZd : Below Z.heap.size Z Z.drew := (Below.refl _ _).drew
          obtain ⟨⟨e0, e1, e2, e3, e4, e5, e6⟩, -⟩ := zcells (Blk.drew HF.out.1)
          refine bodyPost_ret (v := .tuple #[.agg #[.slice la1 nl1 lc1, .int .i64 s0, .int .i64 s1, .int .i64 s2, .int .i64 s3, .slice ra1 nr1 rc1, .slice da1 nd1 dc1], .slice none 0 0]) ?_ rfl ⟨_, none, 0, 0, rfl, by rw [HX.out.1]; exact HF.out.2.1.below hZd, by rw [HX.out.2.1]; exact HF.out.2.2.1.below hZd (Nat.le_refl _), HF.out.2.2.2.drew⟩
          simp [results, Try.results9, go_sem, e0, e1, e2, e3, e4, e5, e6]
      · rw [if_neg v10] at HP0
        have HP : Hid _ := HP0
        have v0' : (vt == 0) = false := by simpa using v0
        have v10' : (vt == 10) = false := by simpa using v10
        clear HP0 v0 v10
        go_wp2_with fail
        clear q0 q1 q2 q3 q4 q5 q6 r0 r1 r3 l0 l1 l2 l3 l4 l5
        refine (say_any (P + 1) (w.heap.size + 1 + 1) (w.heap.size + 1) w.heap.size 3 _ d hs me (.slice ma nm cm) none 0 0 [] w3 HM3.out.sb HM3.out.mb HM3.out.eb (OwnL.nil _ _) HM3.out.bel.size (by simp)).mono ?_
        rintro e w5 ⟨rfl, sa, sn, sc, hS, hO, hK⟩
        have hK2 : Keep (fun b => b = P + 1) w3 w5 := hK.mono (fun b _ hb => hb.elim id (fun h => by cases h))
        have HMS : Hid _ := HMid.say HM3.out hS (HM3.out.nv.onlyS (Keep.only HM3.out.sb hK2)) hK2
        have HX : Hid _ := And.intro HP.out.1 (And.intro HP.out.2 (show OwnL 25 4 encM w5 w.heap.size (.slice sa sn sc) (([(3, d, me, [])] : List Q4).map msgX) from hO))
        clear hS hO hK hK2
        go_upto_region 23 with fail

        obtain ⟨⟨b0, b1, b2, b3, b4, b5, b6⟩, -⟩ := zcells HMS.out.nb
        obtain ⟨⟨n0, n1, n2, n3, n4, n5, n6⟩, f0, f1, f2, f3, f4, f5, f6⟩ := zcells HMS.out.zb
        have g0 := HMS.out.sb.cell 0
        have gl := HMS.out.sb.lt
        have gp := HMS.out.nb.lt
        have gz := HMS.out.zb.lt
        simp at g0
        obtain ⟨hW9, hOnly9⟩ := fill7 HMS.out.zb (.slice la1 nl1 lc1) (.int .i64 s0) (.int .i64 s1) (.int .i64 s2) (.int .i64 s3) (.slice ra1 nr1 rc1) (.slice da1 nd1 dc1)
        have hK9 := (fill7K HMS.out.zb (.slice la1 nl1 lc1) (.int .i64 s0) (.int .i64 s1) (.int .i64 s2) (.int .i64 s3) (.slice ra1 nr1 rc1) (.slice da1 nd1 dc1)).2
        have HF : Hid _ := And.intro hW9 (And.intro (HMS.out.nv.only hOnly9) (And.intro (HX.out.2.2.only hOnly9 (by decide)) (HMS.out.bel.trans (hK9.below HMS.out.bel.size (fun b hb => by omega)))))
        clear hW9 hOnly9 hK9
        go_region
        all_goals
          clear b0 b1 b2 b3 b4 b5 b6 n0 n1 n2 n3 n4 n5 n6 f0 f1 f2 f3 f4 f5 f6 g0
          go_wp2_with fail
          generalize (((((((w5.setCell ⟨w.heap.size + 1 + 1 + 1, 0, none⟩ (.slice la1 nl1 lc1)).setCell ⟨w.heap.size + 1 + 1 + 1, 1, none⟩ (.int .i64 s0)).setCell ⟨w.heap.size + 1 + 1 + 1, 2, none⟩ (.int .i64 s1)).setCell ⟨w.heap.size + 1 + 1 + 1, 3, none⟩ (.int .i64 s2)).setCell ⟨w.heap.size + 1 + 1 + 1, 4, none⟩ (.int .i64 s3)).setCell ⟨w.heap.size + 1 + 1 + 1, 5, none⟩ (.slice ra1 nr1 rc1)).setCell ⟨w.heap.size + 1 + 1 + 1, 6, none⟩ (.slice da1 nd1 dc1)) = Z at *
          have hZd : Below Z.heap.size Z Z.drew := (Below.refl _ _).drew
          obtain ⟨⟨e0, e1, e2, e3, e4, e5, e6⟩, -⟩ := zcells (Blk.drew HF.out.1)
          refine bodyPost_ret (v := .tuple #[.agg #[.slice la1 nl1 lc1, .int .i64 s0, .int .i64 s1, .int .i64 s2, .int .i64 s3, .slice ra1 nr1 rc1, .slice da1 nd1 dc1], .slice sa sn sc]) ?_ rfl ⟨_, sa, sn, sc, rfl, by rw [HX.out.1]; exact HF.out.2.1.below hZd, by rw [HX.out.2.1]; exact HF.out.2.2.1.below hZd (Nat.le_refl _), HF.out.2.2.2.drew⟩
          simp [results, Try.results9, go_sem, e0, e1, e2, e3, e4, e5, e6]
  · have k1' : (k == 1) = false := by simpa using k1
    by_cases k4 : k = 4
    · subst k4
      clear k1 k1'
      cases rd
      · have HP0 := hear_4n HHB.out l me HZ.out
        simp only at HP0
        obtain ⟨la9, nl9, lc9, t0, t1, t2, t3, ra9, nr9, rc9, da9, nd9, dc9, e0, e1, e2, e3, e4, e5, e6, hn9, hr9⟩ := HM2.out.open
        cases e0; cases e1; cases e2; cases e3; cases e4; cases e5; cases e6
        rw [HHB.out] at hn9 hr9
        have HR9 : Hid (nd1 = dn.length ∧ RowAt 1 encI w2 da1 dn) := ⟨hn9, hr9⟩
        obtain ⟨⟨b0, b1, b2, b3, b4, b5, b6⟩, -⟩ := zcells HM2.out.nb
        clear hn9 hr9
        go_wp2_with fail
        clear q0 q1 q2 q3 q4 q5 q6 r0 r1 r3 l0 l1 l2 l3 l4 l5 b0 b1 b2 b3 b4 b5 b6
        refine (isDone_any la1 ra1 da1 nl1 lc1 nr1 rc1 nd1 dc1 s0 s1 s2 s3 d dn w2 HR9.out.1 (by have := HN.out.2.2.1.2.1; omega) HR9.out.2).mono ?_
        rintro e w3 ⟨rfl, hb3⟩
        have HM3 : Hid _ := HM2.out.below hb3
        clear HM2 hb3 HR9
        obtain ⟨⟨q0, q1, q2, q3, q4, q5, q6⟩, ⟨r0, r1, r3⟩, ⟨l0, l1, l2, l3⟩, l4, l5⟩ := HM3.out.cells
        cases hzi : inI dn d
        · rw [hzi, if_neg (by simp)] at HP0
          have HP : Hid _ := HP0
          clear HP0 hzi
          have HX : Hid _ := And.intro HP.out.1 (And.intro HP.out.2 (show OwnL 25 4 encM w3 w.heap.size (.slice none 0 0) (([] : List Q4).map msgX) from OwnL.nil _ _))
          go_upto_region 23 with fail
          clear q0 q1 q2 q3 q4 q5 q6 r0 r1 r3 l0 l1 l2 l3 l4 l5

          obtain ⟨⟨b0, b1, b2, b3, b4, b5, b6⟩, -⟩ := zcells HM3.out.nb
          obtain ⟨⟨n0, n1, n2, n3, n4, n5, n6⟩, f0, f1, f2, f3, f4, f5, f6⟩ := zcells HM3.out.zb
          have g0 := HM3.out.sb.cell 0
          have gl := HM3.out.sb.lt
          have gp := HM3.out.nb.lt
          have gz := HM3.out.zb.lt
          simp at g0
          obtain ⟨hW9, hOnly9⟩ := fill7 HM3.out.zb (.slice la1 nl1 lc1) (.int .i64 s0) (.int .i64 s1) (.int .i64 s2) (.int .i64 s3) (.slice ra1 nr1 rc1) (.slice da1 nd1 dc1)
          have hK9 := (fill7K HM3.out.zb (.slice la1 nl1 lc1) (.int .i64 s0) (.int .i64 s1) (.int .i64 s2) (.int .i64 s3) (.slice ra1 nr1 rc1) (.slice da1 nd1 dc1)).2
          have HF : Hid _ := And.intro hW9 (And.intro (HM3.out.nv.only hOnly9) (And.intro (HX.out.2.2.only hOnly9 (by decide)) (HM3.out.bel.trans (hK9.below HM3.out.bel.size (fun b hb => by omega)))))
          clear hW9 hOnly9 hK9
          go_region
          all_goals
            clear b0 b1 b2 b3 b4 b5 b6 n0 n1 n2 n3 n4 n5 n6 f0 f1 f2 f3 f4 f5 f6 g0
            go_wp2_with fail
            generalize (((((((w3.setCell ⟨w.heap.size + 1 + 1 + 1, 0, none⟩ (.slice la1 nl1 lc1)).setCell ⟨w.heap.size + 1 + 1 + 1, 1, none⟩ (.int .i64 s0)).setCell ⟨w.heap.size + 1 + 1 + 1, 2, none⟩ (.int .i64 s1)).setCell ⟨w.heap.size + 1 + 1 + 1, 3, none⟩ (.int .i64 s2)).setCell ⟨w.heap.size + 1 + 1 + 1, 4, none⟩ (.int .i64 s3)).setCell ⟨w.heap.size + 1 + 1 + 1, 5, none⟩ (.slice ra1 nr1 rc1)).setCell ⟨w.heap.size + 1 + 1 + 1, 6, none⟩ (.slice da1 nd1 dc1)) = Z at *
            have hZd : Below Z.heap.size Z Z.drew := (Below.refl _ _).drew
            obtain ⟨⟨e0, e1, e2, e3, e4, e5, e6⟩, -⟩ := zcells (Blk.drew HF.out.1)
            refine bodyPost_ret (v := .tuple #[.agg #[.slice la1 nl1 lc1, .int .i64 s0, .int .i64 s1, .int .i64 s2, .int .i64 s3, .slice ra1 nr1 rc1, .slice da1 nd1 dc1], .slice none 0 0]) ?_ rfl ⟨_, none, 0, 0, rfl, by rw [HX.out.1]; exact HF.out.2.1.below hZd, by rw [HX.out.2.1]; exact HF.out.2.2.1.below hZd (Nat.le_refl _), HF.out.2.2.2.drew⟩
            simp [results, Try.results9, go_sem, e0, e1, e2, e3, e4, e5, e6]
        · rw [hzi, if_pos rfl] at HP0
          have HP : Hid _ := HP0
          clear HP0 hzi
          go_wp2_with fail
          clear q0 q1 q2 q3 q4 q5 q6 r0 r1 r3 l0 l1 l2 l3 l4 l5
          refine (say_any (P + 1) (w.heap.size + 1 + 1) (w.heap.size + 1) w.heap.size 6 _ d hs me (.slice ma nm cm) none 0 0 [] w3 HM3.out.sb HM3.out.mb HM3.out.eb (OwnL.nil _ _) HM3.out.bel.size (by simp)).mono ?_
          rintro e w5 ⟨rfl, sa, sn, sc, hS, hO, hK⟩
          have hK2 : Keep (fun b => b = P + 1) w3 w5 := hK.mono (fun b _ hb => hb.elim id (fun h => by cases h))
          have HMS : Hid _ := HMid.say HM3.out hS (HM3.out.nv.onlyS (Keep.only HM3.out.sb hK2)) hK2
          have HX : Hid _ := And.intro HP.out.1 (And.intro HP.out.2 (show OwnL 25 4 encM w5 w.heap.size (.slice sa sn sc) (([(6, d, me, [])] : List Q4).map msgX) from hO))
          clear hS hO hK hK2
          go_upto_region 23 with fail

          obtain ⟨⟨b0, b1, b2, b3, b4, b5, b6⟩, -⟩ := zcells HMS.out.nb
          obtain ⟨⟨n0, n1, n2, n3, n4, n5, n6⟩, f0, f1, f2, f3, f4, f5, f6⟩ := zcells HMS.out.zb
          have g0 := HMS.out.sb.cell 0
          have gl := HMS.out.sb.lt
          have gp := HMS.out.nb.lt
          have gz := HMS.out.zb.lt
          simp at g0
          obtain ⟨hW9, hOnly9⟩ := fill7 HMS.out.zb (.slice la1 nl1 lc1) (.int .i64 s0) (.int .i64 s1) (.int .i64 s2) (.int .i64 s3) (.slice ra1 nr1 rc1) (.slice da1 nd1 dc1)
          have hK9 := (fill7K HMS.out.zb (.slice la1 nl1 lc1) (.int .i64 s0) (.int .i64 s1) (.int .i64 s2) (.int .i64 s3) (.slice ra1 nr1 rc1) (.slice da1 nd1 dc1)).2
          have HF : Hid _ := And.intro hW9 (And.intro (HMS.out.nv.only hOnly9) (And.intro (HX.out.2.2.only hOnly9 (by decide)) (HMS.out.bel.trans (hK9.below HMS.out.bel.size (fun b hb => by omega)))))
          clear hW9 hOnly9 hK9
          go_region
          all_goals
            clear b0 b1 b2 b3 b4 b5 b6 n0 n1 n2 n3 n4 n5 n6 f0 f1 f2 f3 f4 f5 f6 g0
            go_wp2_with fail
            generalize (((((((w5.setCell ⟨w.heap.size + 1 + 1 + 1, 0, none⟩ (.slice la1 nl1 lc1)).setCell ⟨w.heap.size + 1 + 1 + 1, 1, none⟩ (.int .i64 s0)).setCell ⟨w.heap.size + 1 + 1 + 1, 2, none⟩ (.int .i64 s1)).setCell ⟨w.heap.size + 1 + 1 + 1, 3, none⟩ (.int .i64 s2)).setCell ⟨w.heap.size + 1 + 1 + 1, 4, none⟩ (.int .i64 s3)).setCell ⟨w.heap.size + 1 + 1 + 1, 5, none⟩ (.slice ra1 nr1 rc1)).setCell ⟨w.heap.size + 1 + 1 + 1, 6, none⟩ (.slice da1 nd1 dc1)) = Z at *
            have hZd : Below Z.heap.size Z Z.drew := (Below.refl _ _).drew
            obtain ⟨⟨e0, e1, e2, e3, e4, e5, e6⟩, -⟩ := zcells (Blk.drew HF.out.1)
            refine bodyPost_ret (v := .tuple #[.agg #[.slice la1 nl1 lc1, .int .i64 s0, .int .i64 s1, .int .i64 s2, .int .i64 s3, .slice ra1 nr1 rc1, .slice da1 nd1 dc1], .slice sa sn sc]) ?_ rfl ⟨_, sa, sn, sc, rfl, by rw [HX.out.1]; exact HF.out.2.1.below hZd, by rw [HX.out.2.1]; exact HF.out.2.2.1.below hZd (Nat.le_refl _), HF.out.2.2.2.drew⟩
            simp [results, Try.results9, go_sem, e0, e1, e2, e3, e4, e5, e6]
      · have HP : Hid _ := hear_4r HHB.out l me HZ.out
        go_wp2_with fail
        clear q0 q1 q2 q3 q4 q5 q6 r0 r1 r3 l0 l1 l2 l3 l4 l5
        refine (hnote_any w.heap.size (w.heap.size + 1 + 1) P 2 _ d hs (.slice ma nm cm) la ra da nl lc nr rc nd dc s0 s1 s2 s3 Y none 0 0 [] _ _ _ _ _ _ _ w2 HM2.out.hb HM2.out.mb HM2.out.nb HN.out.1.1 rfl (by rw [HN.out.1.2.1]; exact HL.out _ HP.out.1) (HN.out.1.2.2.1.below HM2.out.bel) (Or.inl rfl)).mono ?_
        rintro e w4 ⟨rfl, u0, u1, u2, u3, u4, u5, u6, hP, hV, hK⟩
        rw [HN.out.1.2.1] at hV
        have HM4 : Hid _ := HMid.note HM2.out hP hV hK
        clear hP hV hK
        obtain ⟨⟨q0, q1, q2, q3, q4, q5, q6⟩, ⟨r0, r1, r3⟩, ⟨l0, l1, l2, l3⟩, l4, l5⟩ := HM4.out.cells
        obtain ⟨la9, nl9, lc9, t0, t1, t2, t3, ra9, nr9, rc9, da9, nd9, dc9, rfl, rfl, rfl, rfl, rfl, rfl, rfl, hn9, hr9⟩ := HM4.out.open
        have hsz9 : (houseB (L ++ [(2, d, [])])).2.2.length ≤ 9223372036854775807 := by
          have h1 := (houseB_inv (HL.out _ HP.out.1).ok).done
          rw [List.length_append, List.length_singleton] at h1
          omega
        have HR9 : Hid (nd9 = (houseB (L ++ [(2, d, [])])).2.2.length ∧ RowAt 1 encI w4 da9 (houseB (L ++ [(2, d, [])])).2.2 ∧ (houseB (L ++ [(2, d, [])])).2.2.length ≤ 9223372036854775807) := ⟨hn9, hr9, hsz9⟩
        obtain ⟨⟨b0, b1, b2, b3, b4, b5, b6⟩, -⟩ := zcells HM4.out.nb
        clear hn9 hr9 hsz9
        go_wp2_with fail
        clear q0 q1 q2 q3 q4 q5 q6 r0 r1 r3 l0 l1 l2 l3 l4 l5 b0 b1 b2 b3 b4 b5 b6
        refine (isDone_any la9 ra9 da9 nl9 lc9 nr9 rc9 nd9 dc9 t0 t1 t2 t3 d (houseB (L ++ [(2, d, [])])).2.2 w4 HR9.out.1 HR9.out.2.2 HR9.out.2.1).mono ?_
        rw [HP.out.2.2.2]
        rintro e w3 ⟨rfl, hb3⟩
        have HM3 : Hid _ := HM4.out.below hb3
        clear HM4 HM2 hb3 HR9
        obtain ⟨⟨q0, q1, q2, q3, q4, q5, q6⟩, ⟨r0, r1, r3⟩, ⟨l0, l1, l2, l3⟩, l4, l5⟩ := HM3.out.cells
        go_wp2_with fail
        clear q0 q1 q2 q3 q4 q5 q6 r0 r1 r3 l0 l1 l2 l3 l4 l5
        refine (say_any (P + 1) (w.heap.size + 1 + 1) (w.heap.size + 1) w.heap.size 6 _ d hs me (.slice ma nm cm) none 0 0 [] w3 HM3.out.sb HM3.out.mb HM3.out.eb (OwnL.nil _ _) HM3.out.bel.size (by simp)).mono ?_
        rintro e w5 ⟨rfl, sa, sn, sc, hS, hO, hK⟩
        have hK2 : Keep (fun b => b = P + 1) w3 w5 := hK.mono (fun b _ hb => hb.elim id (fun h => by cases h))
        have HMS : Hid _ := HMid.say HM3.out hS (HM3.out.nv.onlyS (Keep.only HM3.out.sb hK2)) hK2
        have HX : Hid _ := And.intro (And.intro HP.out.2.1 HP.out.2.2.1).1 (And.intro (And.intro HP.out.2.1 HP.out.2.2.1).2 (show OwnL 25 4 encM w5 w.heap.size (.slice sa sn sc) (([(6, d, me, [])] : List Q4).map msgX) from hO))
        clear hS hO hK hK2
        go_upto_region 23 with fail

        obtain ⟨⟨b0, b1, b2, b3, b4, b5, b6⟩, -⟩ := zcells HMS.out.nb
        obtain ⟨⟨n0, n1, n2, n3, n4, n5, n6⟩, f0, f1, f2, f3, f4, f5, f6⟩ := zcells HMS.out.zb
        have g0 := HMS.out.sb.cell 0
        have gl := HMS.out.sb.lt
        have gp := HMS.out.nb.lt
        have gz := HMS.out.zb.lt
        simp at g0
        obtain ⟨hW9, hOnly9⟩ := fill7 HMS.out.zb (.slice la9 nl9 lc9) (.int .i64 t0) (.int .i64 t1) (.int .i64 t2) (.int .i64 t3) (.slice ra9 nr9 rc9) (.slice da9 nd9 dc9)
        have hK9 := (fill7K HMS.out.zb (.slice la9 nl9 lc9) (.int .i64 t0) (.int .i64 t1) (.int .i64 t2) (.int .i64 t3) (.slice ra9 nr9 rc9) (.slice da9 nd9 dc9)).2
        have HF : Hid _ := And.intro hW9 (And.intro (HMS.out.nv.only hOnly9) (And.intro (HX.out.2.2.only hOnly9 (by decide)) (HMS.out.bel.trans (hK9.below HMS.out.bel.size (fun b hb => by omega)))))
        clear hW9 hOnly9 hK9
        go_region
        all_goals
          clear b0 b1 b2 b3 b4 b5 b6 n0 n1 n2 n3 n4 n5 n6 f0 f1 f2 f3 f4 f5 f6 g0
          go_wp2_with fail
          generalize (((((((w5.setCell ⟨w.heap.size + 1 + 1 + 1, 0, none⟩ (.slice la9 nl9 lc9)).setCell ⟨w.heap.size + 1 + 1 + 1, 1, none⟩ (.int .i64 t0)).setCell ⟨w.heap.size + 1 + 1 + 1, 2, none⟩ (.int .i64 t1)).setCell ⟨w.heap.size + 1 + 1 + 1, 3, none⟩ (.int .i64 t2)).setCell ⟨w.heap.size + 1 + 1 + 1, 4, none⟩ (.int .i64 t3)).setCell ⟨w.heap.size + 1 + 1 + 1, 5, none⟩ (.slice ra9 nr9 rc9)).setCell ⟨w.heap.size + 1 + 1 + 1, 6, none⟩ (.slice da9 nd9 dc9)) = Z at *
          have hZd : Below Z.heap.size Z Z.drew := (Below.refl _ _).drew
          obtain ⟨⟨e0, e1, e2, e3, e4, e5, e6⟩, -⟩ := zcells (Blk.drew HF.out.1)
          refine bodyPost_ret (v := .tuple #[.agg #[.slice la9 nl9 lc9, .int .i64 t0, .int .i64 t1, .int .i64 t2, .int .i64 t3, .slice ra9 nr9 rc9, .slice da9 nd9 dc9], .slice sa sn sc]) ?_ rfl ⟨_, sa, sn, sc, rfl, by rw [HX.out.1]; exact HF.out.2.1.below hZd, by rw [HX.out.2.1]; exact HF.out.2.2.1.below hZd (Nat.le_refl _), HF.out.2.2.2.drew⟩
          simp [results, Try.results9, go_sem, e0, e1, e2, e3, e4, e5, e6]
    · have k4' : (k == 4) = false := by simpa using k4
      by_cases k5 : k = 5
      · subst k5
        clear k1 k4 k1' k4'
        cases rd
        · have HP : Hid _ := hear_5n HHB.out l me HZ.out
          have HX : Hid _ := And.intro HP.out.1 (And.intro HP.out.2 (show OwnL 25 4 encM w2 w.heap.size (.slice none 0 0) (([] : List Q4).map msgX) from OwnL.nil _ _))
          go_upto_region 23 with fail
          clear q0 q1 q2 q3 q4 q5 q6 r0 r1 r3 l0 l1 l2 l3 l4 l5

          obtain ⟨⟨b0, b1, b2, b3, b4, b5, b6⟩, -⟩ := zcells HM2.out.nb
          obtain ⟨⟨n0, n1, n2, n3, n4, n5, n6⟩, f0, f1, f2, f3, f4, f5, f6⟩ := zcells HM2.out.zb
          have g0 := HM2.out.sb.cell 0
          have gl := HM2.out.sb.lt
          have gp := HM2.out.nb.lt
          have gz := HM2.out.zb.lt
          simp at g0
          obtain ⟨hW9, hOnly9⟩ := fill7 HM2.out.zb (.slice la1 nl1 lc1) (.int .i64 s0) (.int .i64 s1) (.int .i64 s2) (.int .i64 s3) (.slice ra1 nr1 rc1) (.slice da1 nd1 dc1)
          have hK9 := (fill7K HM2.out.zb (.slice la1 nl1 lc1) (.int .i64 s0) (.int .i64 s1) (.int .i64 s2) (.int .i64 s3) (.slice ra1 nr1 rc1) (.slice da1 nd1 dc1)).2
          have HF : Hid _ := And.intro hW9 (And.intro (HM2.out.nv.only hOnly9) (And.intro (HX.out.2.2.only hOnly9 (by decide)) (HM2.out.bel.trans (hK9.below HM2.out.bel.size (fun b hb => by omega)))))
          clear hW9 hOnly9 hK9
          go_region
          all_goals
            clear b0 b1 b2 b3 b4 b5 b6 n0 n1 n2 n3 n4 n5 n6 f0 f1 f2 f3 f4 f5 f6 g0
            go_wp2_with fail
            generalize (((((((w2.setCell ⟨w.heap.size + 1 + 1 + 1, 0, none⟩ (.slice la1 nl1 lc1)).setCell ⟨w.heap.size + 1 + 1 + 1, 1, none⟩ (.int .i64 s0)).setCell ⟨w.heap.size + 1 + 1 + 1, 2, none⟩ (.int .i64 s1)).setCell ⟨w.heap.size + 1 + 1 + 1, 3, none⟩ (.int .i64 s2)).setCell ⟨w.heap.size + 1 + 1 + 1, 4, none⟩ (.int .i64 s3)).setCell ⟨w.heap.size + 1 + 1 + 1, 5, none⟩ (.slice ra1 nr1 rc1)).setCell ⟨w.heap.size + 1 + 1 + 1, 6, none⟩ (.slice da1 nd1 dc1)) = Z at *
            have hZd : Below Z.heap.size Z Z.drew := (Below.refl _ _).drew
            obtain ⟨⟨e0, e1, e2, e3, e4, e5, e6⟩, -⟩ := zcells (Blk.drew HF.out.1)
            refine bodyPost_ret (v := .tuple #[.agg #[.slice la1 nl1 lc1, .int .i64 s0, .int .i64 s1, .int .i64 s2, .int .i64 s3, .slice ra1 nr1 rc1, .slice da1 nd1 dc1], .slice none 0 0]) ?_ rfl ⟨_, none, 0, 0, rfl, by rw [HX.out.1]; exact HF.out.2.1.below hZd, by rw [HX.out.2.1]; exact HF.out.2.2.1.below hZd (Nat.le_refl _), HF.out.2.2.2.drew⟩
            simp [results, Try.results9, go_sem, e0, e1, e2, e3, e4, e5, e6]
        · have HP : Hid _ := hear_5r HHB.out l me HZ.out
          go_wp2_with fail
          clear q0 q1 q2 q3 q4 q5 q6 r0 r1 r3 l0 l1 l2 l3 l4 l5
          refine (hnote_any w.heap.size (w.heap.size + 1 + 1) P 3 _ d hs (.slice ma nm cm) la ra da nl lc nr rc nd dc s0 s1 s2 s3 Y none 0 0 [] _ _ _ _ _ _ _ w2 HM2.out.hb HM2.out.mb HM2.out.nb HN.out.1.1 rfl (by rw [HN.out.1.2.1]; exact HL.out _ HP.out.1) (HN.out.1.2.2.1.below HM2.out.bel) (Or.inl rfl)).mono ?_
          rintro e w4 ⟨rfl, u0, u1, u2, u3, u4, u5, u6, hP, hV, hK⟩
          rw [HN.out.1.2.1] at hV
          have HM4 : Hid _ := HMid.note HM2.out hP hV hK
          clear hP hV hK
          obtain ⟨⟨q0, q1, q2, q3, q4, q5, q6⟩, ⟨r0, r1, r3⟩, ⟨l0, l1, l2, l3⟩, l4, l5⟩ := HM4.out.cells
          have HX : Hid _ := And.intro HP.out.2.1 (And.intro HP.out.2.2 (show OwnL 25 4 encM w4 w.heap.size (.slice none 0 0) (([] : List Q4).map msgX) from OwnL.nil _ _))
          go_upto_region 23 with fail
          clear q0 q1 q2 q3 q4 q5 q6 r0 r1 r3 l0 l1 l2 l3 l4 l5

          obtain ⟨la9, nl9, lc9, t0, t1, t2, t3, ra9, nr9, rc9, da9, nd9, dc9, rfl, rfl, rfl, rfl, rfl, rfl, rfl, -, -⟩ := HM4.out.open
          obtain ⟨⟨b0, b1, b2, b3, b4, b5, b6⟩, -⟩ := zcells HM4.out.nb
          obtain ⟨⟨n0, n1, n2, n3, n4, n5, n6⟩, f0, f1, f2, f3, f4, f5, f6⟩ := zcells HM4.out.zb
          have g0 := HM4.out.sb.cell 0
          have gl := HM4.out.sb.lt
          have gp := HM4.out.nb.lt
          have gz := HM4.out.zb.lt
          simp at g0
          obtain ⟨hW9, hOnly9⟩ := fill7 HM4.out.zb (.slice la9 nl9 lc9) (.int .i64 t0) (.int .i64 t1) (.int .i64 t2) (.int .i64 t3) (.slice ra9 nr9 rc9) (.slice da9 nd9 dc9)
          have hK9 := (fill7K HM4.out.zb (.slice la9 nl9 lc9) (.int .i64 t0) (.int .i64 t1) (.int .i64 t2) (.int .i64 t3) (.slice ra9 nr9 rc9) (.slice da9 nd9 dc9)).2
          have HF : Hid _ := And.intro hW9 (And.intro (HM4.out.nv.only hOnly9) (And.intro (HX.out.2.2.only hOnly9 (by decide)) (HM4.out.bel.trans (hK9.below HM4.out.bel.size (fun b hb => by omega)))))
          clear hW9 hOnly9 hK9
          go_region
          all_goals
            clear b0 b1 b2 b3 b4 b5 b6 n0 n1 n2 n3 n4 n5 n6 f0 f1 f2 f3 f4 f5 f6 g0
            go_wp2_with fail
            generalize (((((((w4.setCell ⟨w.heap.size + 1 + 1 + 1, 0, none⟩ (.slice la9 nl9 lc9)).setCell ⟨w.heap.size + 1 + 1 + 1, 1, none⟩ (.int .i64 t0)).setCell ⟨w.heap.size + 1 + 1 + 1, 2, none⟩ (.int .i64 t1)).setCell ⟨w.heap.size + 1 + 1 + 1, 3, none⟩ (.int .i64 t2)).setCell ⟨w.heap.size + 1 + 1 + 1, 4, none⟩ (.int .i64 t3)).setCell ⟨w.heap.size + 1 + 1 + 1, 5, none⟩ (.slice ra9 nr9 rc9)).setCell ⟨w.heap.size + 1 + 1 + 1, 6, none⟩ (.slice da9 nd9 dc9)) = Z at *
            have hZd : Below Z.heap.size Z Z.drew := (Below.refl _ _).drew
            obtain ⟨⟨e0, e1, e2, e3, e4, e5, e6⟩, -⟩ := zcells (Blk.drew HF.out.1)
            refine bodyPost_ret (v := .tuple #[.agg #[.slice la9 nl9 lc9, .int .i64 t0, .int .i64 t1, .int .i64 t2, .int .i64 t3, .slice ra9 nr9 rc9, .slice da9 nd9 dc9], .slice none 0 0]) ?_ rfl ⟨_, none, 0, 0, rfl, by rw [HX.out.1]; exact HF.out.2.1.below hZd, by rw [HX.out.2.1]; exact HF.out.2.2.1.below hZd (Nat.le_refl _), HF.out.2.2.2.drew⟩
            simp [results, Try.results9, go_sem, e0, e1, e2, e3, e4, e5, e6]
      · have k5' : (k == 5) = false := by simpa using k5
        have HP : Hid _ := hear_0 (L := L) (d := d) l me k1 k4 k5
        clear k1 k4 k5
        have HX : Hid _ := And.intro HP.out.1 (And.intro HP.out.2 (show OwnL 25 4 encM w2 w.heap.size (.slice none 0 0) (([] : List Q4).map msgX) from OwnL.nil _ _))
        go_upto_region 23 with fail
        clear q0 q1 q2 q3 q4 q5 q6 r0 r1 r3 l0 l1 l2 l3 l4 l5

        obtain ⟨⟨b0, b1, b2, b3, b4, b5, b6⟩, -⟩ := zcells HM2.out.nb
        obtain ⟨⟨n0, n1, n2, n3, n4, n5, n6⟩, f0, f1, f2, f3, f4, f5, f6⟩ := zcells HM2.out.zb
        have g0 := HM2.out.sb.cell 0
        have gl := HM2.out.sb.lt
        have gp := HM2.out.nb.lt
        have gz := HM2.out.zb.lt
        simp at g0
        obtain ⟨hW9, hOnly9⟩ := fill7 HM2.out.zb (.slice la1 nl1 lc1) (.int .i64 s0) (.int .i64 s1) (.int .i64 s2) (.int .i64 s3) (.slice ra1 nr1 rc1) (.slice da1 nd1 dc1)
        have hK9 := (fill7K HM2.out.zb (.slice la1 nl1 lc1) (.int .i64 s0) (.int .i64 s1) (.int .i64 s2) (.int .i64 s3) (.slice ra1 nr1 rc1) (.slice da1 nd1 dc1)).2
        have HF : Hid _ := And.intro hW9 (And.intro (HM2.out.nv.only hOnly9) (And.intro (HX.out.2.2.only hOnly9 (by decide)) (HM2.out.bel.trans (hK9.below HM2.out.bel.size (fun b hb => by omega)))))
        clear hW9 hOnly9 hK9
        go_region
        all_goals
          clear b0 b1 b2 b3 b4 b5 b6 n0 n1 n2 n3 n4 n5 n6 f0 f1 f2 f3 f4 f5 f6 g0
          go_wp2_with fail
          generalize (((((((w2.setCell ⟨w.heap.size + 1 + 1 + 1, 0, none⟩ (.slice la1 nl1 lc1)).setCell ⟨w.heap.size + 1 + 1 + 1, 1, none⟩ (.int .i64 s0)).setCell ⟨w.heap.size + 1 + 1 + 1, 2, none⟩ (.int .i64 s1)).setCell ⟨w.heap.size + 1 + 1 + 1, 3, none⟩ (.int .i64 s2)).setCell ⟨w.heap.size + 1 + 1 + 1, 4, none⟩ (.int .i64 s3)).setCell ⟨w.heap.size + 1 + 1 + 1, 5, none⟩ (.slice ra1 nr1 rc1)).setCell ⟨w.heap.size + 1 + 1 + 1, 6, none⟩ (.slice da1 nd1 dc1)) = Z at *
          have hZd : Below Z.heap.size Z Z.drew := (Below.refl _ _).drew
          obtain ⟨⟨e0, e1, e2, e3, e4, e5, e6⟩, -⟩ := zcells (Blk.drew HF.out.1)
          refine bodyPost_ret (v := .tuple #[.agg #[.slice la1 nl1 lc1, .int .i64 s0, .int .i64 s1, .int .i64 s2, .int .i64 s3, .slice ra1 nr1 rc1, .slice da1 nd1 dc1], .slice none 0 0]) ?_ rfl ⟨_, none, 0, 0, rfl, by rw [HX.out.1]; exact HF.out.2.1.below hZd, by rw [HX.out.2.1]; exact HF.out.2.2.1.below hZd (Nat.le_refl _), HF.out.2.2.2.drew⟩
          simp [results, Try.results9, go_sem, e0, e1, e2, e3, e4, e5, e6]

end Go.Proofs.Ytikmnaegalmfeaa
