/- Messages in memory; a house that hears, on the way. -/
import Derived.Test.YtikmnaegalmfeaaKJ27
import Derived.Deep.DeepCutAuto
namespace Go.Proofs.Ytikmnaegalmfeaa
open Go.RowKit
attribute [local go_sem ↓] Go.wp_at_zero Go.wp_at_succ

/-- A message as it lies. -/
abbrev XM := Int × Int × Int × Hd × List P3
def encM (x : XM) : List Value := [.int .i64 x.1, .int .i64 x.2.1, .int .i64 x.2.2.1, .slice x.2.2.2.1.1 x.2.2.2.2.length x.2.2.2.1.2]
theorem lenM (x : XM) : (encM x).length = 4 := rfl
theorem oneM (x : XM) : ∀ u ∈ encM x, u.oneCell' = true := by intro u hu; simp [encM] at hu; rcases hu with rfl | rfl | rfl | rfl <;> rfl
def stripM (x : XM) : Q4 := (x.1, x.2.1, x.2.2.1, x.2.2.2.2)
/-- Messages in memory, none of it in R. -/
structure MsgsF (R : Nat → Prop) (w : World) (a : Option Addr) (n : Nat) (X : List XM) (ms : List Q4) : Prop where
  n : n = X.length
  row : RowAt 4 encM w a X
  out : Out R a X.length
  says : X.map stripM = ms
  parts : ∀ x ∈ X, PartsR R w x.2.2.2.1.1 x.2.2.2.2
theorem MsgsF.keep {R : Nat → Prop} {w w' : World} {a : Option Addr} {n : Nat} {X : List XM} {ms : List Q4} (H : MsgsF R w a n X ms) (hk : Keep R w w') : MsgsF R w' a n X ms :=
  ⟨H.n, H.row.keepR H.out hk, H.out, H.says, fun x hx => (H.parts x hx).keep hk⟩
theorem MsgsF.below {R : Nat → Prop} {w w' : World} {a : Option Addr} {n : Nat} {X : List XM} {ms : List Q4} (H : MsgsF R w a n X ms) (hb : Below w.heap.size w w') : MsgsF R w' a n X ms := H.keep (keep_of_below hb)
theorem MsgsF.wide {R R' : Nat → Prop} {w : World} {a : Option Addr} {n : Nat} {X : List XM} {ms : List Q4} (H : MsgsF R w a n X ms) (hR : ∀ b, R' b → R b ∨ w.heap.size ≤ b) : MsgsF R' w a n X ms :=
  ⟨H.n, H.row, H.row.out H.out hR, H.says, fun x hx => (H.parts x hx).wide hR⟩
def MsgsV (R : Nat → Prop) (w : World) (v : Value) (ms : List Q4) : Prop := ∃ a n c X, v = .slice a n c ∧ MsgsF R w a n X ms
theorem MsgsV.nil (R : Nat → Prop) (w : World) : MsgsV R w (.slice none 0 0) [] := ⟨none, 0, 0, [], rfl, rfl, Or.inl rfl, Or.inl rfl, rfl, (fun x hx => by cases hx)⟩
theorem MsgsV.one {R : Nat → Prop} {w : World} {B : Nat} (k d h : Int) (hb : Blk w B #[.int .i64 k, .int .i64 d, .int .i64 h, .slice none 0 0] 25) (hR : ¬ R B) (c : Nat) : MsgsV R w (.slice (some ⟨B, 0, none⟩) 1 c) [(k, d, h, [])] :=
  ⟨_, _, _, [(k, d, h, (none, 0), [])], rfl, rfl, RowAt.one hb rfl, Or.inr (fun ad had hr => by cases had; exact hR hr), rfl, fun x hx => by rw [List.mem_singleton.1 hx]; exact PartsR.nil _ _ _⟩

/-- On the way: h lies in block N, m in the next one, the answer in the third. -/
structure HearMid (R : Nat → Prop) (w wx : World) (N : Nat) (k d hs : Int) (mv : Value) (la : Option Addr) (nl lc : Nat) (Y : List XL) (ra : Option Addr) (nr rc : Nat) (XR : List XD) (da : Option Addr) (nd dc : Nat) (L : List R3) (s0 s1 s2 s3 : Int) (D : List D2) (dn : List Int) : Prop where
  hb : Blk wx N #[.slice la nl lc, .int .i64 s0, .int .i64 s1, .int .i64 s2, .int .i64 s3, .slice ra nr rc, .slice da nd dc] 31
  mb : Blk wx (N + 1) #[.int .i64 k, .int .i64 d, .int .i64 hs, mv] 25
  zb : Blk wx (N + 1 + 1) #[.slice none 0 0, .int .i64 0, .int .i64 0, .int .i64 0, .int .i64 0, .slice none 0 0, .slice none 0 0] 31
  F : HouseF R wx la nl Y ra nr XR da nd L ((s0, s1, s2, s3), D, dn)
  bel : Below w.heap.size w wx
theorem HearMid.below {R : Nat → Prop} {w wx wy : World} {N : Nat} {k d hs : Int} {mv : Value} {la : Option Addr} {nl lc : Nat} {Y : List XL} {ra : Option Addr} {nr rc : Nat} {XR : List XD} {da : Option Addr} {nd dc : Nat} {L : List R3} {s0 s1 s2 s3 : Int} {D : List D2} {dn : List Int}
    (H : HearMid R w wx N k d hs mv la nl lc Y ra nr rc XR da nd dc L s0 s1 s2 s3 D dn) (hb : Below wx.heap.size wx wy) : HearMid R w wy N k d hs mv la nl lc Y ra nr rc XR da nd dc L s0 s1 s2 s3 D dn :=
  ⟨H.hb.below hb H.hb.lt, H.mb.below hb H.mb.lt, H.zb.below hb H.zb.lt, H.F.below hb, H.bel.trans (hb.mono H.bel.size)⟩

theorem fill7K {w : World} {N : Nat} {T : TypeId} {c0 c1 c2 c3 c4 c5 c6 : Value} (hb : Blk w N #[c0, c1, c2, c3, c4, c5, c6] T) (u0 u1 u2 u3 u4 u5 u6 : Value) :
    Blk (((((((w.setCell ⟨N, 0, none⟩ u0).setCell ⟨N, 1, none⟩ u1).setCell ⟨N, 2, none⟩ u2).setCell ⟨N, 3, none⟩ u3).setCell ⟨N, 4, none⟩ u4).setCell ⟨N, 5, none⟩ u5).setCell ⟨N, 6, none⟩ u6) N #[u0, u1, u2, u3, u4, u5, u6] T ∧ Keep (fun b => b = N) w (((((((w.setCell ⟨N, 0, none⟩ u0).setCell ⟨N, 1, none⟩ u1).setCell ⟨N, 2, none⟩ u2).setCell ⟨N, 3, none⟩ u3).setCell ⟨N, 4, none⟩ u4).setCell ⟨N, 5, none⟩ u5).setCell ⟨N, 6, none⟩ u6) := by
  refine ⟨(fill7 hb u0 u1 u2 u3 u4 u5 u6).1, ?_⟩
  have k0 := (Keep.refl (fun b => b = N) w).setCell (p := ⟨N, 0, none⟩) rfl u0
  have k1 := k0.setCell (p := ⟨N, 1, none⟩) rfl u1
  have k2 := k1.setCell (p := ⟨N, 2, none⟩) rfl u2
  have k3 := k2.setCell (p := ⟨N, 3, none⟩) rfl u3
  have k4 := k3.setCell (p := ⟨N, 4, none⟩) rfl u4
  have k5 := k4.setCell (p := ⟨N, 5, none⟩) rfl u5
  exact k5.setCell (p := ⟨N, 6, none⟩) rfl u6
/-- Another house is laid into h. -/
theorem HearMid.put {R : Nat → Prop} {w wx : World} {N : Nat} {k d hs : Int} {mv : Value} {la : Option Addr} {nl lc : Nat} {Y : List XL} {ra : Option Addr} {nr rc : Nat} {XR : List XD} {da : Option Addr} {nd dc : Nat} {L : List R3} {s0 s1 s2 s3 : Int} {D : List D2} {dn : List Int} (H : HearMid R w wx N k d hs mv la nl lc Y ra nr rc XR da nd dc L s0 s1 s2 s3 D dn) {la2 : Option Addr} {nl2 lc2 : Nat} {Y2 : List XL} {ra2 : Option Addr} {nr2 rc2 : Nat} {XR2 : List XD} {da2 : Option Addr} {nd2 dc2 : Nat} {L2 : List R3} {t0 t1 t2 t3 : Int} {D2 : List D2} {dn2 : List Int}
    (hF : HouseF R wx la2 nl2 Y2 ra2 nr2 XR2 da2 nd2 L2 ((t0, t1, t2, t3), D2, dn2)) (hR : R N) (hN : w.heap.size ≤ N) :
    HearMid R w (((((((wx.setCell ⟨N, 0, none⟩ (.slice la2 nl2 lc2)).setCell ⟨N, 1, none⟩ (.int .i64 t0)).setCell ⟨N, 2, none⟩ (.int .i64 t1)).setCell ⟨N, 3, none⟩ (.int .i64 t2)).setCell ⟨N, 4, none⟩ (.int .i64 t3)).setCell ⟨N, 5, none⟩ (.slice ra2 nr2 rc2)).setCell ⟨N, 6, none⟩ (.slice da2 nd2 dc2)) N k d hs mv la2 nl2 lc2 Y2 ra2 nr2 rc2 XR2 da2 nd2 dc2 L2 t0 t1 t2 t3 D2 dn2 := by
  obtain ⟨h1, h2⟩ := fill7K H.hb (.slice la2 nl2 lc2) (.int .i64 t0) (.int .i64 t1) (.int .i64 t2) (.int .i64 t3) (.slice ra2 nr2 rc2) (.slice da2 nd2 dc2)
  have hk : Keep R wx (((((((wx.setCell ⟨N, 0, none⟩ (.slice la2 nl2 lc2)).setCell ⟨N, 1, none⟩ (.int .i64 t0)).setCell ⟨N, 2, none⟩ (.int .i64 t1)).setCell ⟨N, 3, none⟩ (.int .i64 t2)).setCell ⟨N, 4, none⟩ (.int .i64 t3)).setCell ⟨N, 5, none⟩ (.slice ra2 nr2 rc2)).setCell ⟨N, 6, none⟩ (.slice da2 nd2 dc2)) := h2.mono (fun b _ hb => by subst hb; exact hR)
  exact ⟨h1, H.mb.keep h2 (by omega), H.zb.keep h2 (by omega), hF.keep hk, H.bel.trans (h2.below H.bel.size (fun b hb => by omega))⟩
/-- The cells of h, of m and of the answer. -/
theorem HearMid.cells {R : Nat → Prop} {w wx : World} {N : Nat} {k d hs : Int} {mv : Value} {la : Option Addr} {nl lc : Nat} {Y : List XL} {ra : Option Addr} {nr rc : Nat} {XR : List XD} {da : Option Addr} {nd dc : Nat} {L : List R3} {s0 s1 s2 s3 : Int} {D : List D2} {dn : List Int} (H : HearMid R w wx N k d hs mv la nl lc Y ra nr rc XR da nd dc L s0 s1 s2 s3 D dn) :
    (wx.cell? ⟨N, 0, none⟩ = some (.slice la nl lc) ∧ wx.cell? ⟨N, 1, none⟩ = some (.int .i64 s0) ∧ wx.cell? ⟨N, 2, none⟩ = some (.int .i64 s1) ∧ wx.cell? ⟨N, 3, none⟩ = some (.int .i64 s2) ∧ wx.cell? ⟨N, 4, none⟩ = some (.int .i64 s3) ∧ wx.cell? ⟨N, 5, none⟩ = some (.slice ra nr rc) ∧ wx.cell? ⟨N, 6, none⟩ = some (.slice da nd dc)) ∧
    (wx.cell? ⟨N + 1, 0, none⟩ = some (.int .i64 k) ∧ wx.cell? ⟨N + 1, 1, none⟩ = some (.int .i64 d) ∧ wx.cell? ⟨N + 1, 3, none⟩ = some mv) ∧ N + 1 + 1 < wx.heap.size :=
  ⟨⟨H.hb.cell 0, H.hb.cell 1, H.hb.cell 2, H.hb.cell 3, H.hb.cell 4, H.hb.cell 5, H.hb.cell 6⟩, ⟨H.mb.cell 0, H.mb.cell 1, H.mb.cell 3⟩, H.zb.lt⟩
theorem zcells {w : World} {N : Nat} {T : TypeId} {c0 c1 c2 c3 c4 c5 c6 : Value} (H : Blk w N #[c0, c1, c2, c3, c4, c5, c6] T) :
    (w.cell? ⟨N, 0, none⟩ = some c0 ∧ w.cell? ⟨N, 1, none⟩ = some c1 ∧ w.cell? ⟨N, 2, none⟩ = some c2 ∧ w.cell? ⟨N, 3, none⟩ = some c3 ∧ w.cell? ⟨N, 4, none⟩ = some c4 ∧ w.cell? ⟨N, 5, none⟩ = some c5 ∧ w.cell? ⟨N, 6, none⟩ = some c6) ∧
    (w.frozen? ⟨N, 0, none⟩ = false ∧ w.frozen? ⟨N, 1, none⟩ = false ∧ w.frozen? ⟨N, 2, none⟩ = false ∧ w.frozen? ⟨N, 3, none⟩ = false ∧ w.frozen? ⟨N, 4, none⟩ = false ∧ w.frozen? ⟨N, 5, none⟩ = false ∧ w.frozen? ⟨N, 6, none⟩ = false) :=
  ⟨⟨H.cell 0, H.cell 1, H.cell 2, H.cell 3, H.cell 4, H.cell 5, H.cell 6⟩, ⟨H.free 0, H.free 1, H.free 2, H.free 3, H.free 4, H.free 5, H.free 6⟩⟩

end Go.Proofs.Ytikmnaegalmfeaa
