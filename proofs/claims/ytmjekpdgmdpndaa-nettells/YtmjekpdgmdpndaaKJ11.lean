/- Several texts in one: Messages in memory; a house that hears, on the way; What the document's SameInts does with two lists of the same numbers; What the document's SameParts, SameLog and SameReady do with two lists that say the same: they only read; Heads in memory, and what the document's SameHead does with two that are the same; Plain functions over several houses' sums: what the functions of package model come to, and their laws, with no word of the program; Plain worlds: what the document's functions of heads, nets and worlds come to, with no word of the program. -/
import Derived.Test.YtmjekpdgmdpndaaKJ10
import Derived.Test.YtmjekpdgmdpndaaKJ04
import Derived.Test.YtmjekpdgmdpndaaKJ03
import Derived.Test.YtmjekpdgmdpndaaKHouseP
import Derived.Deep.DeepCutAuto
import Derived.WalkSmall
import Derived.BigQuiet
namespace Go.Proofs.Ytmjekpdgmdpndaa
open Go.RowKit
attribute [local go_sem ↓] Go.wp_at_zero Go.wp_at_succ

/-- A message as it lies. -/
abbrev XM := Int × Int × Int × Hd × List P3
def encM (x : XM) : List Value := [.int .i64 x.1, .int .i64 x.2.1, .int .i64 x.2.2.1, .slice x.2.2.2.1.1 x.2.2.2.2.length x.2.2.2.1.2]
theorem lenM (x : XM) : (encM x).length = 4 := rfl
def stripM (x : XM) : Q4 := (x.1, x.2.1, x.2.2.1, x.2.2.2.2)
/-- Messages in memory, none of it in R. -/
structure MsgsF (R : Nat → Prop) (w : World) (a : Option Addr) (n : Nat) (X : List XM) (ms : List Q4) : Prop where
  n : n = X.length
  row : RowAt 4 encM w a X
  out : Out R a X.length
  says : X.map stripM = ms
  parts : ∀ x ∈ X, PartsR R w x.2.2.2.1.1 x.2.2.2.2
theorem MsgsF.keep {R : Nat → Prop} {w w' : World} {a : Option Addr} {n : Nat} {X : List XM} {ms : List Q4} (H : MsgsF R w a n X ms) (hk : Keep R w w') : MsgsF R w' a n X ms :=
  ⟨H.n, H.row.keepR H.out hk, H.out, H.says, fun x hx => (H.parts x hx).keep hk⟩
theorem MsgsF.below {R : Nat → Prop} {w w' : World} {a : Option Addr} {n : Nat} {X : List XM} {ms : List Q4} (H : MsgsF R w a n X ms) (hb : Below w.heap.size w w') : MsgsF R w' a n X ms := H.keep (keep_of_below hb)
theorem MsgsF.wide {R R' : Nat → Prop} {w : World} {a : Option Addr} {n : Nat} {X : List XM} {ms : List Q4} (H : MsgsF R w a n X ms) (hR : ∀ b, R' b → R b ∨ w.heap.size ≤ b) : MsgsF R' w a n X ms :=
  ⟨H.n, H.row, H.row.out H.out hR, H.says, fun x hx => (H.parts x hx).wide hR⟩
def MsgsV (R : Nat → Prop) (w : World) (v : Value) (ms : List Q4) : Prop := ∃ a n c X, v = .slice a n c ∧ MsgsF R w a n X ms
theorem MsgsV.nil (R : Nat → Prop) (w : World) : MsgsV R w (.slice none 0 0) [] := ⟨none, 0, 0, [], rfl, rfl, Or.inl rfl, Or.inl rfl, rfl, (fun x hx => by cases hx)⟩
theorem MsgsV.one {R : Nat → Prop} {w : World} {B : Nat} (k d h : Int) (hb : Blk w B #[.int .i64 k, .int .i64 d, .int .i64 h, .slice none 0 0] 43) (hR : ¬ R B) (c : Nat) : MsgsV R w (.slice (some ⟨B, 0, none⟩) 1 c) [(k, d, h, [])] :=
  ⟨_, _, _, [(k, d, h, (none, 0), [])], rfl, rfl, RowAt.one hb rfl, Or.inr (fun ad had hr => by cases had; exact hR hr), rfl, fun x hx => by rw [List.mem_singleton.1 hx]; exact PartsR.nil _ _ _⟩

/-- On the way: h lies in block N, m in the next one, the answer in the third. -/
structure HearMid (R : Nat → Prop) (w wx : World) (N : Nat) (k d hs : Int) (mv : Value) (la : Option Addr) (nl lc : Nat) (Y : List XL) (ra : Option Addr) (nr rc : Nat) (XR : List XD) (da : Option Addr) (nd dc : Nat) (L : List R3) (s0 s1 s2 s3 : Int) (D : List D2) (dn : List Int) : Prop where
  hb : Blk wx N #[.slice la nl lc, .int .i64 s0, .int .i64 s1, .int .i64 s2, .int .i64 s3, .slice ra nr rc, .slice da nd dc] 123
  mb : Blk wx (N + 1) #[.int .i64 k, .int .i64 d, .int .i64 hs, mv] 43
  zb : Blk wx (N + 1 + 1) #[.slice none 0 0, .int .i64 0, .int .i64 0, .int .i64 0, .int .i64 0, .slice none 0 0, .slice none 0 0] 123
  F : HouseF R wx la nl Y ra nr XR da nd L ((s0, s1, s2, s3), D, dn)
  bel : Below w.heap.size w wx
theorem HearMid.below {R : Nat → Prop} {w wx wy : World} {N : Nat} {k d hs : Int} {mv : Value} {la : Option Addr} {nl lc : Nat} {Y : List XL} {ra : Option Addr} {nr rc : Nat} {XR : List XD} {da : Option Addr} {nd dc : Nat} {L : List R3} {s0 s1 s2 s3 : Int} {D : List D2} {dn : List Int}
    (H : HearMid R w wx N k d hs mv la nl lc Y ra nr rc XR da nd dc L s0 s1 s2 s3 D dn) (hb : Below wx.heap.size wx wy) : HearMid R w wy N k d hs mv la nl lc Y ra nr rc XR da nd dc L s0 s1 s2 s3 D dn :=
  ⟨H.hb.below hb H.hb.lt, H.mb.below hb H.mb.lt, H.zb.below hb H.zb.lt, H.F.below hb, H.bel.trans (hb.mono H.bel.size)⟩

theorem fill7K {w : World} {N : Nat} {T : TypeId} {c0 c1 c2 c3 c4 c5 c6 : Value} (hb : Blk w N #[c0, c1, c2, c3, c4, c5, c6] T) (u0 u1 u2 u3 u4 u5 u6 : Value) :
    Blk (((((((w.setCell ⟨N, 0, none⟩ u0).setCell ⟨N, 1, none⟩ u1).setCell ⟨N, 2, none⟩ u2).setCell ⟨N, 3, none⟩ u3).setCell ⟨N, 4, none⟩ u4).setCell ⟨N, 5, none⟩ u5).setCell ⟨N, 6, none⟩ u6) N #[u0, u1, u2, u3, u4, u5, u6] T ∧ Keep (fun b => b = N) w (((((((w.setCell ⟨N, 0, none⟩ u0).setCell ⟨N, 1, none⟩ u1).setCell ⟨N, 2, none⟩ u2).setCell ⟨N, 3, none⟩ u3).setCell ⟨N, 4, none⟩ u4).setCell ⟨N, 5, none⟩ u5).setCell ⟨N, 6, none⟩ u6) := by
  refine ⟨(fill7 hb u0 u1 u2 u3 u4 u5 u6).1, ?_⟩
  have k0 := (Keep.refl (fun b => b = N) w).setCell (p := ⟨N, 0, none⟩) rfl u0
  have k1 := k0.setCell (p := ⟨N, 1, none⟩) rfl u1
  have k2 := k1.setCell (p := ⟨N, 2, none⟩) rfl u2
  have k3 := k2.setCell (p := ⟨N, 3, none⟩) rfl u3
  have k4 := k3.setCell (p := ⟨N, 4, none⟩) rfl u4
  have k5 := k4.setCell (p := ⟨N, 5, none⟩) rfl u5
  exact k5.setCell (p := ⟨N, 6, none⟩) rfl u6
/-- Another house is laid into h. -/
theorem HearMid.put {R : Nat → Prop} {w wx : World} {N : Nat} {k d hs : Int} {mv : Value} {la : Option Addr} {nl lc : Nat} {Y : List XL} {ra : Option Addr} {nr rc : Nat} {XR : List XD} {da : Option Addr} {nd dc : Nat} {L : List R3} {s0 s1 s2 s3 : Int} {D : List D2} {dn : List Int} (H : HearMid R w wx N k d hs mv la nl lc Y ra nr rc XR da nd dc L s0 s1 s2 s3 D dn) {la2 : Option Addr} {nl2 lc2 : Nat} {Y2 : List XL} {ra2 : Option Addr} {nr2 rc2 : Nat} {XR2 : List XD} {da2 : Option Addr} {nd2 dc2 : Nat} {L2 : List R3} {t0 t1 t2 t3 : Int} {D2 : List D2} {dn2 : List Int}
    (hF : HouseF R wx la2 nl2 Y2 ra2 nr2 XR2 da2 nd2 L2 ((t0, t1, t2, t3), D2, dn2)) (hR : R N) (hN : w.heap.size ≤ N) :
    HearMid R w (((((((wx.setCell ⟨N, 0, none⟩ (.slice la2 nl2 lc2)).setCell ⟨N, 1, none⟩ (.int .i64 t0)).setCell ⟨N, 2, none⟩ (.int .i64 t1)).setCell ⟨N, 3, none⟩ (.int .i64 t2)).setCell ⟨N, 4, none⟩ (.int .i64 t3)).setCell ⟨N, 5, none⟩ (.slice ra2 nr2 rc2)).setCell ⟨N, 6, none⟩ (.slice da2 nd2 dc2)) N k d hs mv la2 nl2 lc2 Y2 ra2 nr2 rc2 XR2 da2 nd2 dc2 L2 t0 t1 t2 t3 D2 dn2 := by
  obtain ⟨h1, h2⟩ := fill7K H.hb (.slice la2 nl2 lc2) (.int .i64 t0) (.int .i64 t1) (.int .i64 t2) (.int .i64 t3) (.slice ra2 nr2 rc2) (.slice da2 nd2 dc2)
  have hk : Keep R wx (((((((wx.setCell ⟨N, 0, none⟩ (.slice la2 nl2 lc2)).setCell ⟨N, 1, none⟩ (.int .i64 t0)).setCell ⟨N, 2, none⟩ (.int .i64 t1)).setCell ⟨N, 3, none⟩ (.int .i64 t2)).setCell ⟨N, 4, none⟩ (.int .i64 t3)).setCell ⟨N, 5, none⟩ (.slice ra2 nr2 rc2)).setCell ⟨N, 6, none⟩ (.slice da2 nd2 dc2)) := h2.mono (fun b _ hb => by subst hb; exact hR)
  exact ⟨h1, H.mb.keep h2 (by omega), H.zb.keep h2 (by omega), hF.keep hk, H.bel.trans (h2.below H.bel.size (fun b hb => by omega))⟩
/-- The cells of h, of m and of the answer. -/
theorem HearMid.cells {R : Nat → Prop} {w wx : World} {N : Nat} {k d hs : Int} {mv : Value} {la : Option Addr} {nl lc : Nat} {Y : List XL} {ra : Option Addr} {nr rc : Nat} {XR : List XD} {da : Option Addr} {nd dc : Nat} {L : List R3} {s0 s1 s2 s3 : Int} {D : List D2} {dn : List Int} (H : HearMid R w wx N k d hs mv la nl lc Y ra nr rc XR da nd dc L s0 s1 s2 s3 D dn) :
    (wx.cell? ⟨N, 0, none⟩ = some (.slice la nl lc) ∧ wx.cell? ⟨N, 1, none⟩ = some (.int .i64 s0) ∧ wx.cell? ⟨N, 2, none⟩ = some (.int .i64 s1) ∧ wx.cell? ⟨N, 3, none⟩ = some (.int .i64 s2) ∧ wx.cell? ⟨N, 4, none⟩ = some (.int .i64 s3) ∧ wx.cell? ⟨N, 5, none⟩ = some (.slice ra nr rc) ∧ wx.cell? ⟨N, 6, none⟩ = some (.slice da nd dc)) ∧
    (wx.cell? ⟨N + 1, 0, none⟩ = some (.int .i64 k) ∧ wx.cell? ⟨N + 1, 1, none⟩ = some (.int .i64 d) ∧ wx.cell? ⟨N + 1, 3, none⟩ = some mv) ∧ N + 1 + 1 < wx.heap.size :=
  ⟨⟨H.hb.cell 0, H.hb.cell 1, H.hb.cell 2, H.hb.cell 3, H.hb.cell 4, H.hb.cell 5, H.hb.cell 6⟩, ⟨H.mb.cell 0, H.mb.cell 1, H.mb.cell 3⟩, H.zb.lt⟩
end Go.Proofs.Ytmjekpdgmdpndaa

namespace Go.Proofs.Ytmjekpdgmdpndaa
open Go.RowKit
attribute [local go_sem ↓] Go.wp_at_zero Go.wp_at_succ
theorem drewN_below (w : World) (n : Nat) : Below w.heap.size w (w.drewN n) := below_drewN (Below.refl _ _) n

end Go.Proofs.Ytmjekpdgmdpndaa

namespace Go.Proofs.Ytmjekpdgmdpndaa
open Go.RowKit
attribute [local go_sem ↓] Go.wp_at_zero Go.wp_at_succ

theorem PartsAt.get {w : World} {a : Option Addr} {l : List P3} (h : PartsAt w a l) {k : Nat} (hk : k < l.length) : ∃ b o, a = some ⟨b, o, none⟩ ∧ b < w.heap.size ∧ w.cell? ⟨b, o + k * 3, none⟩ = some (.int .i64 l[k].1) ∧ w.cell? ⟨b, o + k * 3 + 1, none⟩ = some (.int .i64 l[k].2.1) ∧ w.cell? ⟨b, o + k * 3 + 2, none⟩ = some (.int .i64 l[k].2.2) := by
  rcases h with rfl | ⟨b, o, rfl, hlt, hc⟩
  · simp at hk
  · exact ⟨b, o, rfl, hlt, hc k hk⟩

set_option maxHeartbeats 1000000 in
theorem sameParts_q (a1 a2 : Option Addr) (l : List P3) (c1 c2 n1 n2 : Nat) (w : World) (hn1 : n1 = l.length) (hn2 : n2 = l.length) (hl : l.length ≤ 9223372036854775807) (hp1 : PartsAt w a1 l) (hp2 : PartsAt w a2 l) :
    Calls Try.prog 49 #[.slice a1 n1 c1, .slice a2 n2 c2] w fun e w' => e = .returned (.bool true) ∧ ∃ m, w' = w.drewN m := by
  subst hn2
  subst hn1
  have HP : Hid (PartsAt w a1 l ∧ PartsAt w a2 l) := ⟨hp1, hp2⟩
  clear hp1 hp2
  generalize hll : l.length = n at *
  have HL : Hid (l.length = n) := hll
  clear hll
  go_enter Try.func49, Try.ntmps49
  go_wp2
  go_loopw [13] (fun i w' => ∃ k m : Nat, k ≤ n ∧ i = .int .i64 k ∧ w' = w.drewN m) (fun i _ => n - (intOf i).toNat)
  case atStart => exact ⟨0, 0, Nat.zero_le _, rfl, rfl⟩
  case round =>
    obtain ⟨k, m, hk, rfl, rfl⟩ := hrel
    by_cases hlt : k < n
    · have hkl : k < l.length := by rw [HL.out]; exact hlt
      obtain ⟨b1, o1, rfl, hb1, d1, d2, d3⟩ := HP.out.1.get hkl
      obtain ⟨b2, o2, rfl, hb2, e1, e2, e3⟩ := HP.out.2.get hkl
      generalize l[k] = x at *
      obtain ⟨x0, x1, x2⟩ := x
      simp only at d1 d2 d3 e1 e2 e3
      go_wp2
      go_quiet (fail)
      go_wp2
      go_roundw
      case rel => exact ⟨k + 1, _, by omega, by go_num, rfl⟩
      case measure => simp [intOf]; omega
    · go_wp2
      go_ret
      exact ⟨rfl, m, rfl⟩

end Go.Proofs.Ytmjekpdgmdpndaa

namespace Go.Proofs.Ytmjekpdgmdpndaa
open Go.RowKit
attribute [local go_sem ↓] Go.wp_at_zero Go.wp_at_succ

/-- .. as it lies. -/
abbrev XO := Int × (Hd × List P3) × Bool × (Hd × List Int)
def encQ (x : XO) : List Value := [.int .i64 x.1, .slice x.2.1.1.1 x.2.1.2.length x.2.1.1.2, .bool x.2.2.1, .slice x.2.2.2.1.1 x.2.2.2.2.length x.2.2.2.1.2]
def stripO (x : XO) : O4 := (x.1, x.2.1.2, x.2.2.1, x.2.2.2.2)
/-- What an entry points to lies in memory. -/
def XOAt (w : World) (x : XO) : Prop := PartsAt w x.2.1.1.1 x.2.1.2 ∧ RowAt 1 encI w x.2.2.2.1.1 x.2.2.2.2
theorem XOAt.below {w w' : World} {x : XO} (h : XOAt w x) (hb : Below w.heap.size w w') : XOAt w' x := ⟨h.1.below hb, h.2.below hb⟩
def OpensG (w : World) (a : Option Addr) (X : List XO) : Prop := RowAt 4 encQ w a X ∧ ∀ x ∈ X, XOAt w x
theorem OpensG.below {w w' : World} {a : Option Addr} {X : List XO} (h : OpensG w a X) (hb : Below w.heap.size w w') : OpensG w' a X := ⟨h.1.below hb, fun x hx => (h.2 x hx).below hb⟩
theorem OpensG.get {w : World} {a : Option Addr} {X : List XO} (h : OpensG w a X) {k : Nat} (hk : k < X.length) : ∃ b o, a = some ⟨b, o, none⟩ ∧ b < w.heap.size ∧ w.cell? ⟨b, o + k * 4, none⟩ = some (.int .i64 X[k].1) ∧
    w.cell? ⟨b, o + k * 4 + 1, none⟩ = some (.slice X[k].2.1.1.1 X[k].2.1.2.length X[k].2.1.1.2) ∧ w.cell? ⟨b, o + k * 4 + 2, none⟩ = some (.bool X[k].2.2.1) ∧ w.cell? ⟨b, o + k * 4 + 3, none⟩ = some (.slice X[k].2.2.2.1.1 X[k].2.2.2.2.length X[k].2.2.2.1.2) ∧ XOAt w X[k] := by
  rcases h.1 with rfl | ⟨b, o, rfl, hlt, hc⟩
  · simp at hk
  · exact ⟨b, o, rfl, hlt, hc k hk 0 _ rfl, hc k hk 1 _ rfl, hc k hk 2 _ rfl, hc k hk 3 _ rfl, h.2 _ (List.getElem_mem hk)⟩

/-- A head as a value: its log, its boot, how many were begun, what is open. -/
def HeadG (w : World) (v : Value) (L : List R3) (boot next : Int) (O : List O4) : Prop :=
  ∃ (la : Option Addr) (nl lc : Nat) (Y : List XL) (oa : Option Addr) (no oc : Nat) (X : List XO),
    v = .agg #[.slice la nl lc, .int .i64 boot, .int .i64 next, .slice oa no oc] ∧ (nl = L.length ∧ Y.map stripL = L ∧ RecsAt w la Y) ∧ (no = X.length ∧ X.map stripO = O ∧ OpensG w oa X)
theorem HeadG.below {w w' : World} {v : Value} {L : List R3} {b n : Int} {O : List O4} (hh : HeadG w v L b n O) (hb : Below w.heap.size w w') : HeadG w' v L b n O := by
  obtain ⟨la, nl, lc, Y, oa, no, oc, X, hv, ⟨h1, h2, h3⟩, h4, h5, h6⟩ := hh
  exact ⟨la, nl, lc, Y, oa, no, oc, X, hv, ⟨h1, h2, h3.below hb⟩, h4, h5, h6.below hb⟩
end Go.Proofs.Ytmjekpdgmdpndaa

namespace Go.Proofs.Ytmjekpdgmdpndaa
open Go.RowKit
/-- Two deeds that have no key of a house in common. -/
def Apart (a b : List P3) : Prop := ∀ p ∈ a, ∀ q ∈ b, sameB p q = false
theorem Apart.symm {a b : List P3} (h : Apart a b) : Apart b a := fun q hq p hp => by
  have := h p hp q hq
  simp only [sameB, decide_eq_false_iff_not] at this ⊢
  exact fun ⟨x, y⟩ => this ⟨x.symm, y.symm⟩
end Go.Proofs.Ytmjekpdgmdpndaa

namespace Go.Proofs.Ytmjekpdgmdpndaa
open Go.RowKit
/-- A head: its log, its boot, how many were begun since, what is open. -/
structure Gh where
  log : List R3
  boot : Int
  next : Int
  opn : List O4
/-- A world: a head, the logs of its houses, messages that are on their way. -/
structure WW where
  hd : Gh
  hs : List (List R3)
  net : List Q4

/-- The log of a house. -/
def WW.at (W : WW) (k : Int) : List R3 := W.hs.getD k.toNat []
end Go.Proofs.Ytmjekpdgmdpndaa
