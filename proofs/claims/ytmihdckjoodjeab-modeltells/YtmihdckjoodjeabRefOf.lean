/- What the document's Of does, called at parts that lie in memory. -/
import Derived.Test.YtmihdckjoodjeabPart5
import Derived.WalkSmall
namespace Go.Proofs.Ytmihdckjoodjeab
open Go.RowKit

set_option maxHeartbeats 1000000 in
theorem refOf_any (H : Int) (a : Option Addr) (l : List P3) (cap n : Nat) (w : World) (hn : n = l.length) (hl : l.length ≤ 4) (hp : PartsAt w a l) :
    Calls Try.prog 21 #[.slice a n cap, .int .i64 H] w fun e w' => ∃ v, e = .returned v ∧ OwnP w' w.heap.size v (ofB l H) ∧ Below w.heap.size w w' := by
  subst hn
  go_enter Try.func21, Try.ntmps21
  go_wp2
  go_loopw [5, 10] (fun v i w' => ∃ k : Nat, k ≤ l.length ∧ i = .int .i64 k ∧ OwnP w' w.heap.size v (ofB (l.take k) H) ∧ Below w.heap.size w w') (fun _ i _ => l.length - (intOf i).toNat)
  case atStart => exact ⟨0, Nat.zero_le _, rfl, World.ownsRow_nil _ _ _ _, Below.refl _ _⟩
  case round =>
    obtain ⟨k, hk, rfl, hown, hbw⟩ := hrel
    by_cases hlt : k < l.length
    · rcases hp with rfl | ⟨b', o, rfl, hb', hc⟩
      · simp at hlt
      obtain ⟨d0, d1, d2⟩ := hc k hlt
      clear hc
      obtain ⟨hcc, hff⟩ := bcell hbw
      have hsz := hbw.size
      have hle : (ofB (l.take k) H).length ≤ 1000000 := by
        have h1 : (ofB (l.take k) H).length ≤ (l.take k).length := List.length_filter_le _ _
        have h2 := List.length_take_le k l
        omega
      by_cases hs : l[k].1 = H
      · have hd : (l[k].1 == H) = true := by simpa using hs
        have HE : ofB (l.take (k + 1)) H = ofB (l.take k) H ++ [l[k]] := by rw [take_snoc hlt]; exact ofB_yes _ _ _ hs
        clear hs
        generalize ofB (l.take k) H = os at *
        have HX : Hid (ofB (l.take (k + 1)) H = os ++ [l[k]] ∧ OwnP wr w.heap.size u5 os) := ⟨HE, hown⟩
        clear HE hown
        go_wp2_with (at_builtin; refine wpList_append_part _ rfl _ _ rfl w.heap.size u5 _ rfl (HX.out.2.below (below2 wr _ _) (Nat.le_refl _)) (wr.heap.size + 1) l[k] rfl (by exact heap2 wr _ _) hle (by simp; omega) ?_; intro g cap' w2 hown2 hgrow hat hlt2)
        have hB2 : Below w.heap.size w w2 := (hbw.trans ((below2 wr _ _).mono hsz)).grown hgrow (by simp; omega) (fun j hj => by
          rcases HX.out.2.2 with ⟨hv, _⟩ | ⟨g', cap'', cur, hv, hg', _⟩
          · rw [hv] at hj; cases hj
          · rw [hv] at hj; cases hj; exact hg')
        clear hgrow hat hcc hff d0 d1 d2 hle
        go_wp2
        go_roundw
        case rel =>
          refine ⟨k + 1, by omega, by go_num, ?_, hB2⟩
          rw [HX.out.1]
          exact hown2
        case measure => simp [intOf]; omega
      · have hd : (l[k].1 == H) = false := by simpa using hs
        have HE : Hid (ofB (l.take (k + 1)) H = ofB (l.take k) H) := by show _ = _; rw [take_snoc hlt]; exact ofB_no _ _ _ hs
        clear hs hle
        have HX : Hid (OwnP wr w.heap.size u5 (ofB (l.take k) H)) := hown
        clear hown
        go_wp2
        go_roundw
        case rel =>
          refine ⟨k + 1, by omega, by go_num, ?_, hbw.alloc hsz _⟩
          rw [HE.out]
          exact HX.out.below (below1 wr _) (Nat.le_refl _)
        case measure => simp [intOf]; omega
    · have HE : Hid (l.take k = l) := by show _ = _; rw [List.take_of_length_le (by omega)]
      clear hp
      go_wp2
      go_ret
      exact ⟨_, rfl, by rw [HE.out] at hown; exact hown, hbw⟩

end Go.Proofs.Ytmihdckjoodjeab
