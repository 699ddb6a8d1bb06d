/- Plain facts of houses that hear: sums stay within bounds, from whatever right log on. -/
import Derived.Test.YtikmnaegalmfeaaKHouseR
import Derived.Test.YtikmnaegalmfeaaKJ16
namespace Go.Proofs.Ytikmnaegalmfeaa
open Go.RowKit

/-- What holds of the log of a house that hears, from whatever right log on. -/
structure Mild (L : List R3) : Prop where
  ok : OkL L
  within : ∀ k, k ≤ L.length → Within 2199023255552 (houseB (L.take k)).1
  bound : Bound (houseB L)
theorem Mild.calc {L : List R3} (H : Mild L) (h : L.length * 40 ≤ 140737488355328) : CalcL L := ⟨H.ok, H.within, h⟩
theorem natAbs_within {B : Int} {s : S4} (h : Within B s) {k : Int} (hk : keyB k = true) : ((sget s k).natAbs : Int) ≤ B := by
  obtain ⟨a, b, c, d⟩ := h
  rcases keyB_iff.1 hk with rfl | rfl | rfl | rfl
  · show ((s.1).natAbs : Int) ≤ B; omega
  · show ((s.2.1).natAbs : Int) ≤ B; omega
  · show ((s.2.2.1).natAbs : Int) ≤ B; omega
  · show ((s.2.2.2).natAbs : Int) ≤ B; omega
theorem Mild.right {L : List R3} (h : rightLog L = true) : Mild L := by
  obtain ⟨hok, hl⟩ := rightLog_ok h
  have hC := CalcL.of hok (by omega)
  have hi := houseB_inv hok
  refine ⟨hok, hC.within, fun x hx => ?_, hi.ok, fun k hk => ?_⟩
  · obtain ⟨r, hr, rfl⟩ := houseB_deeds hx
    simp only [rightLog, Bool.and_eq_true, List.all_eq_true] at h
    have := h.1 r hr
    simp only [rightR, Bool.and_eq_true, Bool.not_eq_true', decide_eq_false_iff_not] at this
    show 0 ≤ r.2.1
    omega
  · have h1 := natAbs_within hi.within hk
    have h2 := potD_le (k := k) hi.ok
    have h3 := hi.few
    omega
theorem Mild.note {L : List R3} (H : Mild L) {r : R3} (hr : OkP r.2.2) (hb : Bound (hstep (houseB L) r)) : Mild (L ++ [r]) := by
  refine ⟨?_, ?_, by rw [houseB_snoc]; exact hb⟩
  · intro q hq
    rcases List.mem_append.1 hq with hq | hq
    · exact H.ok q hq
    · rw [List.mem_singleton.1 hq]; exact hr
  · intro k hk
    by_cases h : k ≤ L.length
    · rw [List.take_append_of_le_length h]
      exact H.within k h
    · rw [List.take_of_length_le (by simp; omega), houseB_snoc]
      exact hb.within
theorem Mild.hear {L : List R3} (H : Mild L) {k d c : Int} {l : List P3} (hw : wrongMB k d c l = 0) : Mild (hearL L k d l) := by
  obtain ⟨h1, h2, h3, h4, h5, h6⟩ := wrongMB_ok hw
  rcases hearR_cases (houseB L) k d l with h' | ⟨rfl, hv, hn, h'⟩ | ⟨rfl, hn, h'⟩ | ⟨rfl, hn, h'⟩
  · rw [hearL_none h']; exact H
  · rw [hearL_some h']
    obtain ⟨h7, h8⟩ := h6 rfl
    exact H.note (okP_wrong h7) (H.bound.ready h1 h7 h8 hv hn)
  · rw [hearL_some h']; exact H.note okP_nil (H.bound.done hn)
  · rw [hearL_some h']; exact H.note okP_nil H.bound.drop

end Go.Proofs.Ytikmnaegalmfeaa
