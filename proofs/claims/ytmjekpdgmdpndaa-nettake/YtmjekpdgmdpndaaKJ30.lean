/- Several texts in one: Plain facts of houses that hear: sums stay within bounds, from whatever right log on; What part.Fits, part.Do and the document's RightSums do, called at whatever parts and sums that lie within bounds; What part.Houses does: a new slice that owns the houses of the parts, sorted, each once; What the document's asks, aborts and HeadTick do; What the document's aborts and HeadTick do. -/
import Derived.Test.YtmjekpdgmdpndaaKHouseR
import Derived.Test.YtmjekpdgmdpndaaKJ08
import Derived.Test.YtmjekpdgmdpndaaKJ00
import Derived.Test.YtmjekpdgmdpndaaKPart5
import Derived.Test.YtmjekpdgmdpndaaKShelf
import Derived.Test.YtmjekpdgmdpndaaKLog5
import Derived.Test.YtmjekpdgmdpndaaKHearA
import Derived.Test.YtmjekpdgmdpndaaKHeadF
import Derived.Test.YtmjekpdgmdpndaaKHouseP
import Derived.Test.YtmjekpdgmdpndaaKJ10
import Derived.Test.YtmjekpdgmdpndaaKJ24
import Derived.Deep.RegionHeld3
import Derived.WalkSmall
import Derived.Deep.DrawnRows
import Derived.Lib.OwnBridge
import Derived.Sort.Grow
import Derived.Deep.DeepCutAuto
import Derived.Deep.RegionWith
import Derived.Laws.EntriesVeiled
import Derived.Lib.AppendZeros
namespace Go.Proofs.Ytmjekpdgmdpndaa
open Go.RowKit

/-- What holds of the log of a house that hears, from whatever right log on. -/
structure Mild (L : List R3) : Prop where
  ok : OkL L
  within : ∀ k, k ≤ L.length → Within 2199023255552 (houseB (L.take k)).1
  bound : Bound (houseB L)
theorem natAbs_within {B : Int} {s : S4} (h : Within B s) {k : Int} (hk : keyB k = true) : ((sget s k).natAbs : Int) ≤ B := by
  obtain ⟨a, b, c, d⟩ := h
  rcases keyB_iff.1 hk with rfl | rfl | rfl | rfl
  · show ((s.1).natAbs : Int) ≤ B; omega
  · show ((s.2.1).natAbs : Int) ≤ B; omega
  · show ((s.2.2.1).natAbs : Int) ≤ B; omega
  · show ((s.2.2.2).natAbs : Int) ≤ B; omega
theorem Mild.right {L : List R3} (h : rightLog L = true) : Mild L := by
  obtain ⟨hok, hl⟩ := rightLog_ok h
  have hC := CalcL.of hok (by omega)
  have hi := houseB_inv hok
  refine ⟨hok, hC.within, fun x hx => ?_, hi.ok, fun k hk => ?_⟩
  · obtain ⟨r, hr, rfl⟩ := houseB_deeds hx
    simp only [rightLog, Bool.and_eq_true, List.all_eq_true] at h
    have := h.1 r hr
    simp only [rightR, Bool.and_eq_true, Bool.not_eq_true', decide_eq_false_iff_not] at this
    show 0 ≤ r.2.1
    omega
  · have h1 := natAbs_within hi.within hk
    have h2 := potD_le (k := k) hi.ok
    have h3 := hi.few
    omega
theorem Mild.note {L : List R3} (H : Mild L) {r : R3} (hr : OkP r.2.2) (hb : Bound (hstep (houseB L) r)) : Mild (L ++ [r]) := by
  refine ⟨?_, ?_, by rw [houseB_snoc]; exact hb⟩
  · intro q hq
    rcases List.mem_append.1 hq with hq | hq
    · exact H.ok q hq
    · rw [List.mem_singleton.1 hq]; exact hr
  · intro k hk
    by_cases h : k ≤ L.length
    · rw [List.take_append_of_le_length h]
      exact H.within k h
    · rw [List.take_of_length_le (by simp; omega), houseB_snoc]
      exact hb.within
theorem Mild.hear {L : List R3} (H : Mild L) {k d c : Int} {l : List P3} (hw : wrongMB k d c l = 0) : Mild (hearL L k d l) := by
  obtain ⟨h1, h2, h3, h4, h5, h6⟩ := wrongMB_ok hw
  rcases hearR_cases (houseB L) k d l with h' | ⟨rfl, hv, hn, h'⟩ | ⟨rfl, hn, h'⟩ | ⟨rfl, hn, h'⟩
  · rw [hearL_none h']; exact H
  · rw [hearL_some h']
    obtain ⟨h7, h8⟩ := h6 rfl
    exact H.note (okP_wrong h7) (H.bound.ready h1 h7 h8 hv hn)
  · rw [hearL_some h']; exact H.note okP_nil (H.bound.done hn)
  · rw [hearL_some h']; exact H.note okP_nil H.bound.drop

end Go.Proofs.Ytmjekpdgmdpndaa

namespace Go.Proofs.Ytmjekpdgmdpndaa
open Go.RowKit
attribute [local go_sem ↓] Go.wp_at_zero Go.wp_at_succ

theorem idx4_0 (v0 v1 v2 v3 : Value) (w : World) : (Instr.index 121 (.agg #[v0, v1, v2, v3]) (.int .i64 0)).run Try.prog w = .ok v0 w := by kernel_rfl
theorem idx4_1 (v0 v1 v2 v3 : Value) (w : World) : (Instr.index 121 (.agg #[v0, v1, v2, v3]) (.int .i64 1)).run Try.prog w = .ok v1 w := by kernel_rfl
theorem idx4_2 (v0 v1 v2 v3 : Value) (w : World) : (Instr.index 121 (.agg #[v0, v1, v2, v3]) (.int .i64 2)).run Try.prog w = .ok v2 w := by kernel_rfl
theorem idx4_3 (v0 v1 v2 v3 : Value) (w : World) : (Instr.index 121 (.agg #[v0, v1, v2, v3]) (.int .i64 3)).run Try.prog w = .ok v3 w := by kernel_rfl
attribute [local go_sem ↓] idx4_0 idx4_1 idx4_2 idx4_3
def sv (s : S4) : Value := .agg #[.int .i64 s.1, .int .i64 s.2.1, .int .i64 s.2.2.1, .int .i64 s.2.2.2]

end Go.Proofs.Ytmjekpdgmdpndaa

namespace Go.Proofs.Ytmjekpdgmdpndaa
open Go.RowKit Go.Sort

def OwnI (w : World) (base : Nat) (v : Value) (l : List Int) : Prop := w.ownsRow base 3 1 v l.length (l.map (Value.int .i64))
theorem OwnI.below {w w' : World} {base : Nat} {v : Value} {l : List Int} (h : OwnI w base v l) {B : Nat} (hb : Below B w w') (hB : w.heap.size ≤ B) : OwnI w' base v l := ownsRow_below h hb hB

theorem OwnI.row {w : World} {base : Nat} {v : Value} {l : List Int} (h : OwnI w base v l) : ∀ k, v.ownBlock = some k → base ≤ k := by
  intro j hj
  rcases h.2 with ⟨hv, _⟩ | ⟨g', cap'', cur, hv, hg', _⟩
  · rw [hv] at hj; cases hj
  · rw [hv] at hj; cases hj; exact hg'

end Go.Proofs.Ytmjekpdgmdpndaa

namespace Go.Proofs.Ytmjekpdgmdpndaa
open Go.RowKit
attribute [local go_sem ↓] Go.wp_at_zero Go.wp_at_succ

theorem flat_encI (l : List Int) : flat encI l = l.map (Value.int .i64) := by
  induction l with
  | nil => rfl
  | cons a t ih =>
    show encI a ++ flat encI t = _
    rw [ih]
    rfl
theorem OwnI.own {w : World} {base : Nat} {v : Value} {l : List Int} (h : OwnI w base v l) : OwnL 3 1 encI w base v l := by
  unfold OwnL
  rw [flat_encI]
  exact h
theorem MsgsO.len {w : World} {base : Nat} {v : Value} {ms : List Q4} (h : MsgsO w base v ms) : ∃ X : List XM, X.length = ms.length ∧ OwnL 43 4 encM w base v X ∧ X.map stripM = ms ∧ ∀ x ∈ X, PartsT base w x.2.2.2.1.1 x.2.2.2.2 := by
  obtain ⟨X, h1, h2, h3⟩ := h
  exact ⟨X, by rw [← h2, List.length_map], h1, h2, h3⟩
/-- One more message is put behind. -/
theorem MsgsO.snoc {w w2 w4 : World} {base : Nat} {X : List XM} {ms : List Q4} {v v4 : Value} {x : XM} (hX : X.map stripM = ms) (hT : ∀ y ∈ X, PartsT base w y.2.2.2.1.1 y.2.2.2.2) (hC : Calm 65 w w2) (hO : OwnL 43 4 encM w2 base v X) (hg : w2.grownBy w4 v.ownBlock) (h4 : OwnL 43 4 encM w4 base v4 (X ++ [x])) (hx : PartsT base w2 x.2.2.2.1.1 x.2.2.2.2) : MsgsO w4 base v4 (ms ++ [stripM x]) := by
  have hC2 : Calm 65 w2 w4 := Calm.grown hg (hO.grownT (by decide))
  refine ⟨X ++ [x], h4, by rw [List.map_append, hX]; rfl, fun y hy => ?_⟩
  rcases List.mem_append.1 hy with hy | hy
  · exact ((hT y hy).calm hC).calm hC2
  · rw [List.mem_singleton.1 hy]; exact hx.calm hC2

end Go.Proofs.Ytmjekpdgmdpndaa

namespace Go.Proofs.Ytmjekpdgmdpndaa
open Go.RowKit
attribute [local go_sem ↓] Go.wp_at_zero Go.wp_at_succ
/-- Open deeds as they lie, for calls that only read them. -/
structure OpnsAt (w : World) (a : Option Addr) (n : Nat) (X : List XO) (O : List O4) : Prop where
  n : n = X.length
  lies : OpensG w a X
  says : X.map stripO = O
theorem OpnsAt.below {w w' : World} {a : Option Addr} {n : Nat} {X : List XO} {O : List O4} (h : OpnsAt w a n X O) (hb : Below w.heap.size w w') : OpnsAt w' a n X O := ⟨h.n, h.lies.below hb, h.says⟩
end Go.Proofs.Ytmjekpdgmdpndaa
