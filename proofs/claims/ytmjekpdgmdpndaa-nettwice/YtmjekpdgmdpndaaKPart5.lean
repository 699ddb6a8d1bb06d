/- What part.Of and part.keep do: a new slice that owns the parts of one house, in turn. -/
import Derived.Test.YtmjekpdgmdpndaaKJ00
import Derived.Test.YtmjekpdgmdpndaaKPure2
namespace Go.Proofs.Ytmjekpdgmdpndaa
open Go.RowKit

set_option maxHeartbeats 400000 in
theorem ofTest_any (h k n H : Int) (b : Nat) (w : World) (hb : b < w.heap.size) (c0 : w.cell? ⟨b, 0, none⟩ = some (.int .i64 H)) :
    Calls Try.prog 85 #[.agg #[.int .i64 h, .int .i64 k, .int .i64 n], .pointer (some ⟨b, 0, none⟩)] w fun e w' => e = .returned (.bool (decide (h = H))) ∧ Below w.heap.size w w' := by
  go_enter Try.func85, Try.ntmps85
  go_wp2
  all_goals
    go_ret
    refine ⟨ret_bool ?_, below1 _ _⟩
    rw [Bool.eq_iff_iff]; simp_all

theorem ofB_yes (l : List P3) (p : P3) (H : Int) (h : p.1 = H) : ofB (l ++ [p]) H = ofB l H ++ [p] := by simp [ofB, List.filter_append, h]
theorem ofB_no (l : List P3) (p : P3) (H : Int) (h : ¬ p.1 = H) : ofB (l ++ [p]) H = ofB l H := by simp [ofB, List.filter_append, h]

set_option maxHeartbeats 1000000 in
theorem keep_any (H : Int) (b : Nat) (a : Option Addr) (l : List P3) (cap n : Nat) (w : World) (hn : n = l.length) (hl : l.length ≤ 4) (hp : PartsAt w a l) (hb : b < w.heap.size) (c0 : w.cell? ⟨b, 0, none⟩ = some (.int .i64 H)) :
    Calls Try.prog 84 #[.slice a n cap, .func (.func 85) #[] #[.pointer (some ⟨b, 0, none⟩)]] w fun e w' => ∃ v, e = .returned v ∧ OwnP w' w.heap.size v (ofB l H) ∧ Below w.heap.size w w' := by
  subst hn
  go_enter Try.func84, Try.ntmps84
  go_wp2
  go_loopw [5, 10] (fun v i w' => ∃ k : Nat, k ≤ l.length ∧ i = .int .i64 k ∧ OwnP w' w.heap.size v (ofB (l.take k) H) ∧ Below w.heap.size w w') (fun _ i _ => l.length - (intOf i).toNat)
  case atStart => exact ⟨0, Nat.zero_le _, rfl, World.ownsRow_nil _ _ _ _, Below.refl _ _⟩
  case round =>
    obtain ⟨k, hk, rfl, hown, hbw⟩ := hrel
    by_cases hlt : k < l.length
    · rcases hp with rfl | ⟨b', o, rfl, hb', hc⟩
      · simp at hlt
      obtain ⟨d0, d1, d2⟩ := hc k hlt
      clear hc
      obtain ⟨hcc, hff⟩ := bcell hbw
      have hsz := hbw.size
      go_wp2_with fail
      refine (ofTest_any _ _ _ H b _ (by simp; omega) (by rw [Below.cell (below1 wr _) (by show b < _; omega), hcc _ _ hb]; exact c0)).mono ?_
      rintro e w1 ⟨rfl, hb1⟩
      have hbr : Below wr.heap.size wr w1 := (below1 wr _).trans (hb1.mono (by simp))
      have hB1 : Below w.heap.size w w1 := hbw.trans (hbr.mono hsz)
      have hsz1 : wr.heap.size + 1 ≤ w1.heap.size := by have := hb1.size; simpa using this
      have hown1 : OwnP w1 w.heap.size u5 (ofB (l.take k) H) := hown.below hbr (Nat.le_refl _)
      obtain ⟨hcc1, hff1⟩ := bcell hb1
      have q0 : w1.cell? ⟨wr.heap.size, 0, none⟩ = some (.int .i64 l[k].1) := by rw [hcc1 _ _ (by simp)]; simp
      have q1 : w1.cell? ⟨wr.heap.size, 1, none⟩ = some (.int .i64 l[k].2.1) := by rw [hcc1 _ _ (by simp)]; simp
      have q2 : w1.cell? ⟨wr.heap.size, 2, none⟩ = some (.int .i64 l[k].2.2) := by rw [hcc1 _ _ (by simp)]; simp
      have hle : (ofB (l.take k) H).length ≤ 1000000 := by
        have h1 : (ofB (l.take k) H).length ≤ (l.take k).length := List.length_filter_le _ _
        have h2 := List.length_take_le k l
        omega
      clear hcc1 hff1 hcc hff hown d0 d1 d2 c0 hb1
      by_cases hs : l[k].1 = H
      · have hd : decide (l[k].1 = H) = true := by simpa using hs
        have HE : Hid (ofB (l.take (k + 1)) H = ofB (l.take k) H ++ [l[k]]) := by show _ = _; rw [take_snoc hlt]; exact ofB_yes _ _ _ hs
        rw [hd]
        clear hs hd
        go_wp2_with (at_builtin; refine wpList_append_part _ rfl _ _ rfl w.heap.size _ _ rfl (hown1.below (below1 w1 _) (Nat.le_refl _)) w1.heap.size l[k] rfl (by exact heap_alloc_new w1 _) hle (by have := hB1.size; simp; omega) ?_; intro g cap' w2 hown2 hgrow hat hlt2)
        have hB2 : Below w.heap.size w w2 := (hB1.trans ((below1 w1 _).mono hB1.size)).grown hgrow (by have := hB1.size; simp; omega) (fun j hj => by
          rcases hown1.2 with ⟨hv, _⟩ | ⟨g', cap'', cur, hv, hg', _⟩
          · rw [hv] at hj; cases hj
          · rw [hv] at hj; cases hj; exact hg')
        clear hown1 hgrow hat q0 q1 q2 hbr
        go_wp2
        go_roundw
        case rel =>
          refine ⟨k + 1, by omega, by go_num, ?_, hB2⟩
          rw [HE.out]
          exact hown2
        case measure => simp [intOf]; omega
      · have hd : decide (l[k].1 = H) = false := by simpa using hs
        have HE : Hid (ofB (l.take (k + 1)) H = ofB (l.take k) H) := by show _ = _; rw [take_snoc hlt]; exact ofB_no _ _ _ hs
        rw [hd]
        clear hs hd
        go_wp2
        go_roundw
        case rel =>
          refine ⟨k + 1, by omega, by go_num, ?_, hB1⟩
          rw [HE.out]
          exact hown1
        case measure => simp [intOf]; omega
    · have HE : Hid (l.take k = l) := by show _ = _; rw [List.take_of_length_le (by omega)]
      clear hp
      go_wp2
      go_ret
      exact ⟨_, rfl, by rw [HE.out] at hown; exact hown, hbw⟩

set_option maxHeartbeats 400000 in
theorem of_any (H : Int) (a : Option Addr) (l : List P3) (cap n : Nat) (w : World) (hn : n = l.length) (hl : l.length ≤ 4) (hp : PartsAt w a l) :
    Calls Try.prog 62 #[.slice a n cap, .int .i64 H] w fun e w' => ∃ v, e = .returned v ∧ OwnP w' w.heap.size v (ofB l H) ∧ Below w.heap.size w w' := by
  subst hn
  have HC := keep_any H w.heap.size a l cap l.length (w.alloc (.cells #[.int .i64 H] 3)) rfl hl (hp.below (below1 w _)) (by simp) (by simp)
  clear hp
  go_enter Try.func62, Try.ntmps62
  go_wp2_with fail
  refine HC.mono ?_
  rintro e w1 ⟨v, rfl, hown, hb1⟩
  clear HC
  go_wp2
  go_ret
  refine ⟨_, rfl, ?_, (below1 w _).trans (hb1.mono (by simp))⟩
  refine ⟨hown.1, ?_⟩
  rcases hown.2 with h0 | ⟨g, cap, cur, hv, hg, r⟩
  · exact Or.inl h0
  · exact Or.inr ⟨g, cap, cur, hv, by simp at hg; omega, r⟩

end Go.Proofs.Ytmjekpdgmdpndaa
