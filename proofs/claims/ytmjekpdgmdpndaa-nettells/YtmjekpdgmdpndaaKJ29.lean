/- Several texts in one: Plain facts of houses that hear: sums stay within bounds, from whatever right log on; What part.Fits, part.Do and the document's RightSums do, called at whatever parts and sums that lie within bounds; What part.Houses does: a new slice that owns the houses of the parts, sorted, each once; What the document's asks, aborts and HeadTick do; What the document's aborts and HeadTick do; What log.Head does, called at a log that lies in memory; What the document's Fall and Quit of a head do; What the document's Quit of a head does; Heads: what is laid into the cells of an answer. -/
import Derived.Test.YtmjekpdgmdpndaaKHouseR
import Derived.Test.YtmjekpdgmdpndaaKJ07
import Derived.Test.YtmjekpdgmdpndaaKJ00
import Derived.Test.YtmjekpdgmdpndaaKJ12
import Derived.Test.YtmjekpdgmdpndaaKShelf
import Derived.Test.YtmjekpdgmdpndaaKLog5
import Derived.Test.YtmjekpdgmdpndaaKJ11
import Derived.Test.YtmjekpdgmdpndaaKHouseP
import Derived.Test.YtmjekpdgmdpndaaKFresh
import Derived.Test.YtmjekpdgmdpndaaKJ23
import Derived.Test.YtmjekpdgmdpndaaKJ04
import Derived.Test.YtmjekpdgmdpndaaKJ06
import Derived.Deep.RegionHeld3
import Derived.WalkSmall
import Derived.Deep.DrawnRows
import Derived.Lib.OwnBridge
import Derived.Sort.Grow
import Derived.Deep.DeepCutAuto
import Derived.Deep.RegionWith
import Derived.Laws.EntriesVeiled
import Derived.Lib.AppendZeros
import Derived.OwnWalk
namespace Go.Proofs.Ytmjekpdgmdpndaa
open Go.RowKit

/-- What holds of the log of a house that hears, from whatever right log on. -/
structure Mild (L : List R3) : Prop where
  ok : OkL L
  within : ∀ k, k ≤ L.length → Within 2199023255552 (houseB (L.take k)).1
  bound : Bound (houseB L)
theorem natAbs_within {B : Int} {s : S4} (h : Within B s) {k : Int} (hk : keyB k = true) : ((sget s k).natAbs : Int) ≤ B := by
  obtain ⟨a, b, c, d⟩ := h
  rcases keyB_iff.1 hk with rfl | rfl | rfl | rfl
  · show ((s.1).natAbs : Int) ≤ B; omega
  · show ((s.2.1).natAbs : Int) ≤ B; omega
  · show ((s.2.2.1).natAbs : Int) ≤ B; omega
  · show ((s.2.2.2).natAbs : Int) ≤ B; omega
theorem Mild.right {L : List R3} (h : rightLog L = true) : Mild L := by
  obtain ⟨hok, hl⟩ := rightLog_ok h
  have hC := CalcL.of hok (by omega)
  have hi := houseB_inv hok
  refine ⟨hok, hC.within, fun x hx => ?_, hi.ok, fun k hk => ?_⟩
  · obtain ⟨r, hr, rfl⟩ := houseB_deeds hx
    simp only [rightLog, Bool.and_eq_true, List.all_eq_true] at h
    have := h.1 r hr
    simp only [rightR, Bool.and_eq_true, Bool.not_eq_true', decide_eq_false_iff_not] at this
    show 0 ≤ r.2.1
    omega
  · have h1 := natAbs_within hi.within hk
    have h2 := potD_le (k := k) hi.ok
    have h3 := hi.few
    omega
theorem Mild.note {L : List R3} (H : Mild L) {r : R3} (hr : OkP r.2.2) (hb : Bound (hstep (houseB L) r)) : Mild (L ++ [r]) := by
  refine ⟨?_, ?_, by rw [houseB_snoc]; exact hb⟩
  · intro q hq
    rcases List.mem_append.1 hq with hq | hq
    · exact H.ok q hq
    · rw [List.mem_singleton.1 hq]; exact hr
  · intro k hk
    by_cases h : k ≤ L.length
    · rw [List.take_append_of_le_length h]
      exact H.within k h
    · rw [List.take_of_length_le (by simp; omega), houseB_snoc]
      exact hb.within
theorem Mild.hear {L : List R3} (H : Mild L) {k d c : Int} {l : List P3} (hw : wrongMB k d c l = 0) : Mild (hearL L k d l) := by
  obtain ⟨h1, h2, h3, h4, h5, h6⟩ := wrongMB_ok hw
  rcases hearR_cases (houseB L) k d l with h' | ⟨rfl, hv, hn, h'⟩ | ⟨rfl, hn, h'⟩ | ⟨rfl, hn, h'⟩
  · rw [hearL_none h']; exact H
  · rw [hearL_some h']
    obtain ⟨h7, h8⟩ := h6 rfl
    exact H.note (okP_wrong h7) (H.bound.ready h1 h7 h8 hv hn)
  · rw [hearL_some h']; exact H.note okP_nil (H.bound.done hn)
  · rw [hearL_some h']; exact H.note okP_nil H.bound.drop

end Go.Proofs.Ytmjekpdgmdpndaa

namespace Go.Proofs.Ytmjekpdgmdpndaa
open Go.RowKit
attribute [local go_sem ↓] Go.wp_at_zero Go.wp_at_succ

theorem idx4_0 (v0 v1 v2 v3 : Value) (w : World) : (Instr.index 121 (.agg #[v0, v1, v2, v3]) (.int .i64 0)).run Try.prog w = .ok v0 w := by kernel_rfl
theorem idx4_1 (v0 v1 v2 v3 : Value) (w : World) : (Instr.index 121 (.agg #[v0, v1, v2, v3]) (.int .i64 1)).run Try.prog w = .ok v1 w := by kernel_rfl
theorem idx4_2 (v0 v1 v2 v3 : Value) (w : World) : (Instr.index 121 (.agg #[v0, v1, v2, v3]) (.int .i64 2)).run Try.prog w = .ok v2 w := by kernel_rfl
theorem idx4_3 (v0 v1 v2 v3 : Value) (w : World) : (Instr.index 121 (.agg #[v0, v1, v2, v3]) (.int .i64 3)).run Try.prog w = .ok v3 w := by kernel_rfl
attribute [local go_sem ↓] idx4_0 idx4_1 idx4_2 idx4_3
def sv (s : S4) : Value := .agg #[.int .i64 s.1, .int .i64 s.2.1, .int .i64 s.2.2.1, .int .i64 s.2.2.2]

end Go.Proofs.Ytmjekpdgmdpndaa

namespace Go.Proofs.Ytmjekpdgmdpndaa
open Go.RowKit Go.Sort

def OwnI (w : World) (base : Nat) (v : Value) (l : List Int) : Prop := w.ownsRow base 3 1 v l.length (l.map (Value.int .i64))
theorem OwnI.below {w w' : World} {base : Nat} {v : Value} {l : List Int} (h : OwnI w base v l) {B : Nat} (hb : Below B w w') (hB : w.heap.size ≤ B) : OwnI w' base v l := ownsRow_below h hb hB

theorem OwnI.row {w : World} {base : Nat} {v : Value} {l : List Int} (h : OwnI w base v l) : ∀ k, v.ownBlock = some k → base ≤ k := by
  intro j hj
  rcases h.2 with ⟨hv, _⟩ | ⟨g', cap'', cur, hv, hg', _⟩
  · rw [hv] at hj; cases hj
  · rw [hv] at hj; cases hj; exact hg'

end Go.Proofs.Ytmjekpdgmdpndaa

namespace Go.Proofs.Ytmjekpdgmdpndaa
open Go.RowKit
attribute [local go_sem ↓] Go.wp_at_zero Go.wp_at_succ

theorem flat_encI (l : List Int) : flat encI l = l.map (Value.int .i64) := by
  induction l with
  | nil => rfl
  | cons a t ih =>
    show encI a ++ flat encI t = _
    rw [ih]
    rfl
theorem OwnI.own {w : World} {base : Nat} {v : Value} {l : List Int} (h : OwnI w base v l) : OwnL 3 1 encI w base v l := by
  unfold OwnL
  rw [flat_encI]
  exact h
theorem MsgsO.len {w : World} {base : Nat} {v : Value} {ms : List Q4} (h : MsgsO w base v ms) : ∃ X : List XM, X.length = ms.length ∧ OwnL 43 4 encM w base v X ∧ X.map stripM = ms ∧ ∀ x ∈ X, PartsT base w x.2.2.2.1.1 x.2.2.2.2 := by
  obtain ⟨X, h1, h2, h3⟩ := h
  exact ⟨X, by rw [← h2, List.length_map], h1, h2, h3⟩
/-- One more message is put behind. -/
theorem MsgsO.snoc {w w2 w4 : World} {base : Nat} {X : List XM} {ms : List Q4} {v v4 : Value} {x : XM} (hX : X.map stripM = ms) (hT : ∀ y ∈ X, PartsT base w y.2.2.2.1.1 y.2.2.2.2) (hC : Calm 65 w w2) (hO : OwnL 43 4 encM w2 base v X) (hg : w2.grownBy w4 v.ownBlock) (h4 : OwnL 43 4 encM w4 base v4 (X ++ [x])) (hx : PartsT base w2 x.2.2.2.1.1 x.2.2.2.2) : MsgsO w4 base v4 (ms ++ [stripM x]) := by
  have hC2 : Calm 65 w2 w4 := Calm.grown hg (hO.grownT (by decide))
  refine ⟨X ++ [x], h4, by rw [List.map_append, hX]; rfl, fun y hy => ?_⟩
  rcases List.mem_append.1 hy with hy | hy
  · exact ((hT y hy).calm hC).calm hC2
  · rw [List.mem_singleton.1 hy]; exact hx.calm hC2

end Go.Proofs.Ytmjekpdgmdpndaa

namespace Go.Proofs.Ytmjekpdgmdpndaa
open Go.RowKit
attribute [local go_sem ↓] Go.wp_at_zero Go.wp_at_succ
/-- Open deeds as they lie, for calls that only read them. -/
structure OpnsAt (w : World) (a : Option Addr) (n : Nat) (X : List XO) (O : List O4) : Prop where
  n : n = X.length
  lies : OpensG w a X
  says : X.map stripO = O
theorem OpnsAt.below {w w' : World} {a : Option Addr} {n : Nat} {X : List XO} {O : List O4} (h : OpnsAt w a n X O) (hb : Below w.heap.size w w') : OpnsAt w' a n X O := ⟨h.n, h.lies.below hb, h.says⟩
end Go.Proofs.Ytmjekpdgmdpndaa

namespace Go.Proofs.Ytmjekpdgmdpndaa
open Go.RowKit
attribute [local go_sem ↓] Go.wp_at_zero Go.wp_at_succ
/-- Open deeds lie in memory, with their parts. -/
def OpensAt (w : World) (a : Option Addr) (X : List XD) : Prop := RowAt 4 encO w a X ∧ ∀ x ∈ X, PartsAt w x.2.1.1 x.2.2
theorem OpensAt.below {w w' : World} {a : Option Addr} {X : List XD} (h : OpensAt w a X) (hb : Below w.heap.size w w') : OpensAt w' a X := ⟨h.1.below hb, fun x hx => (h.2 x hx).below hb⟩
theorem OpensAt.get {w : World} {a : Option Addr} {X : List XD} (h : OpensAt w a X) {k : Nat} (hk : k < X.length) : ∃ b o, a = some ⟨b, o, none⟩ ∧ b < w.heap.size ∧ w.cell? ⟨b, o + k * 4, none⟩ = some (.int .i64 X[k].1) ∧
    w.cell? ⟨b, o + k * 4 + 1, none⟩ = some (.slice X[k].2.1.1 X[k].2.2.length X[k].2.1.2) ∧ w.cell? ⟨b, o + k * 4 + 2, none⟩ = some (.bool true) ∧ w.cell? ⟨b, o + k * 4 + 3, none⟩ = some (.slice none 0 0) ∧ PartsAt w X[k].2.1.1 X[k].2.2 := by
  rcases h.1 with rfl | ⟨b, o, rfl, hlt, hc⟩
  · simp at hk
  · exact ⟨b, o, rfl, hlt, hc k hk 0 _ rfl, hc k hk 1 _ rfl, hc k hk 2 _ rfl, hc k hk 3 _ rfl, h.2 _ (List.getElem_mem hk)⟩
/-- A head as a value: its log, and what the log made. -/
def HeadAt (w : World) (v : Value) (L : List R3) (g : Int × List D2) : Prop :=
  ∃ (la : Option Addr) (nl lc : Nat) (Y : List XL) (oa : Option Addr) (no oc : Nat) (XO : List XD),
    v = .agg #[.slice la nl lc, .int .i64 g.1, .int .i64 0, .slice oa no oc] ∧ (nl = L.length ∧ Y.map stripL = L ∧ RecsAt w la Y) ∧ (no = XO.length ∧ XO.map stripD = g.2 ∧ OpensAt w oa XO)
theorem HeadAt.below {w w' : World} {v : Value} {L : List R3} {g : Int × List D2} (hh : HeadAt w v L g) (hb : Below w.heap.size w w') : HeadAt w' v L g := by
  obtain ⟨la, nl, lc, Y, oa, no, oc, XO, hv, ⟨h1, h2, h3⟩, h4, h5, h6⟩ := hh
  exact ⟨la, nl, lc, Y, oa, no, oc, XO, hv, ⟨h1, h2, h3.below hb⟩, h4, h5, h6.below hb⟩
/-- On the way: block B holds the head g, whose log is the slice lv; what it has lies from base on. -/
def GAt (B base : Nat) (lv : Value) (w : World) (g : Int × List D2) : Prop :=
  ∃ (oa : Option Addr) (no oc : Nat) (XO : List XD),
    Blk w B #[lv, .int .i64 g.1, .int .i64 0, .slice oa no oc] 29 ∧ OwnL 38 4 encO w base (.slice oa no oc) XO ∧ (∀ x ∈ XO, PartsT base w x.2.1.1 x.2.2) ∧ XO.map stripD = g.2
theorem GAt.below {B base : Nat} {lv : Value} {w w' : World} {g : Int × List D2} (hh : GAt B base lv w g) (hb : Below w.heap.size w w') : GAt B base lv w' g := by
  obtain ⟨oa, no, oc, XO, h1, h2, h3, h4⟩ := hh
  exact ⟨oa, no, oc, XO, h1.below hb h1.lt, h2.below hb (Nat.le_refl _), fun x hx => (h3 x hx).calm (Calm.below hb (Nat.le_refl _)), h4⟩
theorem fill4 {w : World} {N : Nat} {T : TypeId} {c0 c1 c2 c3 : Value} (hb : Blk w N #[c0, c1, c2, c3] T) (v0 v1 v2 v3 : Value) :
    Blk ((((w.setCell ⟨N, 0, none⟩ v0).setCell ⟨N, 1, none⟩ v1).setCell ⟨N, 2, none⟩ v2).setCell ⟨N, 3, none⟩ v3) N #[v0, v1, v2, v3] T ∧ Only T w ((((w.setCell ⟨N, 0, none⟩ v0).setCell ⟨N, 1, none⟩ v1).setCell ⟨N, 2, none⟩ v2).setCell ⟨N, 3, none⟩ v3) := by
  have b0 : Blk (w.setCell ⟨N, 0, none⟩ v0) N #[v0, c1, c2, c3] T := hb.set 0 v0
  have b1 : Blk ((w.setCell ⟨N, 0, none⟩ v0).setCell ⟨N, 1, none⟩ v1) N #[v0, v1, c2, c3] T := b0.set 1 v1
  have b2 : Blk (((w.setCell ⟨N, 0, none⟩ v0).setCell ⟨N, 1, none⟩ v1).setCell ⟨N, 2, none⟩ v2) N #[v0, v1, v2, c3] T := b1.set 2 v2
  have b3 : Blk ((((w.setCell ⟨N, 0, none⟩ v0).setCell ⟨N, 1, none⟩ v1).setCell ⟨N, 2, none⟩ v2).setCell ⟨N, 3, none⟩ v3) N #[v0, v1, v2, v3] T := b2.set 3 v3
  exact ⟨b3, (((Only.setCell (a := ⟨N, 0, none⟩) hb v0).trans (Only.setCell (a := ⟨N, 1, none⟩) b0 v1)).trans (Only.setCell (a := ⟨N, 2, none⟩) b1 v2)).trans (Only.setCell (a := ⟨N, 3, none⟩) b2 v3)⟩

end Go.Proofs.Ytmjekpdgmdpndaa

namespace Go.Proofs.Ytmjekpdgmdpndaa
open Go.RowKit
attribute [local go_sem ↓] Go.wp_at_zero Go.wp_at_succ

theorem fill4K {w : World} {N : Nat} {T : TypeId} {c0 c1 c2 c3 : Value} (hb : Blk w N #[c0, c1, c2, c3] T) (v0 v1 v2 v3 : Value) :
    Blk ((((w.setCell ⟨N, 0, none⟩ v0).setCell ⟨N, 1, none⟩ v1).setCell ⟨N, 2, none⟩ v2).setCell ⟨N, 3, none⟩ v3) N #[v0, v1, v2, v3] T ∧ Keep (fun b => b = N) w ((((w.setCell ⟨N, 0, none⟩ v0).setCell ⟨N, 1, none⟩ v1).setCell ⟨N, 2, none⟩ v2).setCell ⟨N, 3, none⟩ v3) := by
  refine ⟨(fill4 hb v0 v1 v2 v3).1, ?_⟩
  have k0 := (Keep.refl (fun b => b = N) w).setCell (p := ⟨N, 0, none⟩) rfl v0
  have k1 := k0.setCell (p := ⟨N, 1, none⟩) rfl v1
  have k2 := k1.setCell (p := ⟨N, 2, none⟩) rfl v2
  exact k2.setCell (p := ⟨N, 3, none⟩) rfl v3
end Go.Proofs.Ytmjekpdgmdpndaa

namespace Go.Proofs.Ytmjekpdgmdpndaa
open Go.RowKit
attribute [local go_sem ↓] Go.wp_at_zero Go.wp_at_succ

/-- Blocks of another kind are written: messages stay. -/
theorem MsgsO.keptT {w w' : World} {base : Nat} {v : Value} {ms : List Q4} (h : MsgsO w base v ms) {row : Option Nat} (hg : w.grownBy w' row) (hne : ∀ k, row = some k → ∃ cs t, Blk w k cs t ∧ t ≠ 43 ∧ t ≠ 65) : MsgsO w' base v ms := by
  obtain ⟨X, h1, h2, h3⟩ := h
  refine ⟨X, h1.keptT hg (fun k hk => ?_), h2, fun x hx => (h3 x hx).calm (Calm.grown hg (fun k hk => ?_))⟩
  · obtain ⟨cs, t, hb, hn, _⟩ := hne k hk
    exact ⟨cs, t, hb, hn⟩
  · obtain ⟨cs, t, hb, _, hn⟩ := hne k hk
    exact ⟨cs, t, hb, hn⟩
theorem OwnL.kinds {α : Type} {e t t' : TypeId} {size : Nat} {enc : α → List Value} {w : World} {base : Nat} {v : Value} {xs : List α} (h : OwnL e size enc w base v xs) (h1 : e ≠ t) (h2 : e ≠ t') : ∀ k, v.ownBlock = some k → ∃ cs t0, Blk w k cs t0 ∧ t0 ≠ t ∧ t0 ≠ t' := fun k hk => by
  obtain ⟨_, cs, hb⟩ := h.blk hk
  exact ⟨cs, e, hb, h1, h2⟩
end Go.Proofs.Ytmjekpdgmdpndaa

namespace Go.Proofs.Ytmjekpdgmdpndaa
open Go.RowKit
attribute [local go_sem ↓] Go.wp_at_zero Go.wp_at_succ
/-- Messages outlast the cells of a head. -/
theorem MsgsO.set4 {S : World} {N base : Nat} {c0 c1 c2 c3 : Value} {v : Value} {ms : List Q4} (h : MsgsO S base v ms) (hz : Blk S N #[c0, c1, c2, c3] 29) (v0 v1 v2 v3 : Value) : MsgsO ((((S.setCell ⟨N, 0, none⟩ v0).setCell ⟨N, 1, none⟩ v1).setCell ⟨N, 2, none⟩ v2).setCell ⟨N, 3, none⟩ v3) base v ms := by
  obtain ⟨Z, z1, z2, z3⟩ := h
  refine ⟨Z, ?_, z2, fun x hx => (z3 x hx).calm ?_⟩
  · exact (((z1.setOther (a := ⟨N, 0, none⟩) hz (by decide) _).setOther (a := ⟨N, 1, none⟩) (hz.set 0 _) (by decide) _).setOther (a := ⟨N, 2, none⟩) ((hz.set 0 _).set 1 _) (by decide) _).setOther (a := ⟨N, 3, none⟩) (((hz.set 0 _).set 1 _).set 2 _) (by decide) _
  · exact (((Calm.setCell (a := ⟨N, 0, none⟩) hz (by decide) _).trans (Calm.setCell (a := ⟨N, 1, none⟩) (hz.set 0 _) (by decide) _)).trans (Calm.setCell (a := ⟨N, 2, none⟩) ((hz.set 0 _).set 1 _) (by decide) _)).trans (Calm.setCell (a := ⟨N, 3, none⟩) (((hz.set 0 _).set 1 _).set 2 _) (by decide) _)
theorem MsgsO.slice {w : World} {base : Nat} {v : Value} {ms : List Q4} (h : MsgsO w base v ms) : ∃ a n c, v = .slice a n c := by
  obtain ⟨X, h1, -⟩ := h
  exact h1.slice lenM

end Go.Proofs.Ytmjekpdgmdpndaa
