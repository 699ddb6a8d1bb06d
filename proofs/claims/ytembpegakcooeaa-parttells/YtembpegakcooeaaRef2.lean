/- What the document's Of, Houses and SameParts do, called at parts that lie in memory. -/
import Derived.Test.YtembpegakcooeaaRef1
import Derived.Test.YtembpegakcooeaaPart6
namespace Go.Proofs.Ytembpegakcooeaa
open Go.RowKit

set_option maxHeartbeats 1000000 in
theorem refOf_any (H : Int) (a : Option Addr) (l : List P3) (cap n : Nat) (w : World) (hn : n = l.length) (hl : l.length ≤ 4) (hp : PartsAt w a l) :
    Calls Try.prog 10 #[.slice a n cap, .int .i64 H] w fun e w' => ∃ v, e = .returned v ∧ OwnP w' w.heap.size v (ofB l H) ∧ Below w.heap.size w w' := by
  subst hn
  go_enter Try.func10, Try.ntmps10
  go_wp2
  go_loopw [5, 10] (fun v i w' => ∃ k : Nat, k ≤ l.length ∧ i = .int .i64 k ∧ OwnP w' w.heap.size v (ofB (l.take k) H) ∧ Below w.heap.size w w') (fun _ i _ => l.length - (intOf i).toNat)
  case atStart => exact ⟨0, Nat.zero_le _, rfl, World.ownsRow_nil _ _ _ _, Below.refl _ _⟩
  case round =>
    obtain ⟨k, hk, rfl, hown, hbw⟩ := hrel
    by_cases hlt : k < l.length
    · rcases hp with rfl | ⟨b', o, rfl, hb', hc⟩
      · simp at hlt
      obtain ⟨d0, d1, d2⟩ := hc k hlt
      clear hc
      obtain ⟨hcc, hff⟩ := bcell hbw
      have hsz := hbw.size
      have hle : (ofB (l.take k) H).length ≤ 1000000 := by
        have h1 : (ofB (l.take k) H).length ≤ (l.take k).length := List.length_filter_le _ _
        have h2 := List.length_take_le k l
        omega
      by_cases hs : l[k].1 = H
      · have hd : (l[k].1 == H) = true := by simpa using hs
        have HE : ofB (l.take (k + 1)) H = ofB (l.take k) H ++ [l[k]] := by rw [take_snoc hlt]; exact ofB_yes _ _ _ hs
        clear hs
        generalize ofB (l.take k) H = os at *
        have HX : Hid (ofB (l.take (k + 1)) H = os ++ [l[k]] ∧ OwnP wr w.heap.size u5 os) := ⟨HE, hown⟩
        clear HE hown
        go_wp2_with (at_builtin; refine wpList_append_part _ rfl _ _ rfl w.heap.size u5 _ rfl (HX.out.2.below (below2 wr _ _) (Nat.le_refl _)) (wr.heap.size + 1) l[k] rfl (by exact heap2 wr _ _) hle (by simp; omega) ?_; intro g cap' w2 hown2 hgrow hat hlt2)
        have hB2 : Below w.heap.size w w2 := (hbw.trans ((below2 wr _ _).mono hsz)).grown hgrow (by simp; omega) (fun j hj => by
          rcases HX.out.2.2 with ⟨hv, _⟩ | ⟨g', cap'', cur, hv, hg', _⟩
          · rw [hv] at hj; cases hj
          · rw [hv] at hj; cases hj; exact hg')
        clear hgrow hat hcc hff d0 d1 d2 hle
        go_wp2
        go_roundw
        case rel =>
          refine ⟨k + 1, by omega, by go_num, ?_, hB2⟩
          rw [HX.out.1]
          exact hown2
        case measure => simp [intOf]; omega
      · have hd : (l[k].1 == H) = false := by simpa using hs
        have HE : Hid (ofB (l.take (k + 1)) H = ofB (l.take k) H) := by show _ = _; rw [take_snoc hlt]; exact ofB_no _ _ _ hs
        clear hs hle
        have HX : Hid (OwnP wr w.heap.size u5 (ofB (l.take k) H)) := hown
        clear hown
        go_wp2
        go_roundw
        case rel =>
          refine ⟨k + 1, by omega, by go_num, ?_, hbw.alloc hsz _⟩
          rw [HE.out]
          exact HX.out.below (below1 wr _) (Nat.le_refl _)
        case measure => simp [intOf]; omega
    · have HE : Hid (l.take k = l) := by show _ = _; rw [List.take_of_length_le (by omega)]
      clear hp
      go_wp2
      go_ret
      exact ⟨_, rfl, by rw [HE.out] at hown; exact hown, hbw⟩

def refHousesTo (l : List P3) (k : Int) : List Int := ([0, 1, 2] : List Int).filter fun n => decide (n < k ∧ 0 < (ofB l n).length)

theorem refHouses_zero (l : List P3) : refHousesTo l 0 = [] := by
  simp [refHousesTo]
theorem refHouses_step (l : List P3) {k : Int} (h0 : 0 ≤ k) (h3 : k < 3) : refHousesTo l (k + 1) = if 0 < (ofB l k).length then refHousesTo l k ++ [k] else refHousesTo l k := by
  have hk : k = 0 ∨ k = 1 ∨ k = 2 := by omega
  rcases hk with rfl | rfl | rfl
  all_goals
    simp only [refHousesTo, List.filter_cons, List.filter_nil]
    generalize (ofB l 0).length = n0
    generalize (ofB l 1).length = n1
    generalize (ofB l 2).length = n2
    by_cases c0 : 0 < n0 <;> by_cases c1 : 0 < n1 <;> by_cases c2 : 0 < n2 <;> simp [c0, c1, c2]
theorem refHouses_len (l : List P3) (k : Int) : (refHousesTo l k).length ≤ 3 := by
  have := List.length_filter_le (fun n => decide (n < k ∧ 0 < (ofB l n).length)) ([0, 1, 2] : List Int)
  simpa [refHousesTo] using this

set_option maxHeartbeats 1000000 in
theorem refHouses_any (a : Option Addr) (l : List P3) (cap n : Nat) (w : World) (hn : n = l.length) (hl : l.length ≤ 4) (hp : PartsAt w a l) :
    Calls Try.prog 9 #[.slice a n cap] w fun e w' => ∃ v, e = .returned v ∧ OwnI w' w.heap.size v (refHousesTo l 3) ∧ Below w.heap.size w w' := by
  subst hn
  go_enter Try.func9, Try.ntmps9
  go_wp2
  go_loopw [3, 5] (fun v i w' => ∃ k : Int, 0 ≤ k ∧ k ≤ 3 ∧ i = .int .i64 k ∧ OwnI w' w.heap.size v (refHousesTo l k) ∧ Below w.heap.size w w') (fun _ i _ => (3 - intOf i).toNat)
  case atStart => exact ⟨0, by omega, by omega, rfl, by rw [refHouses_zero]; exact World.ownsRow_nil _ _ _ _, Below.refl _ _⟩
  case round =>
    obtain ⟨k, hk0, hk, rfl, hown, hbw⟩ := hrel
    by_cases hlt : k < 3
    · have hstep := refHouses_step l hk0 hlt
      have hlen := refHouses_len l k
      generalize refHousesTo l k = rs at *
      have hsz := hbw.size
      go_wp2_with fail
      refine (refOf_any k a l cap _ wr rfl hl (hp.below hbw)).mono ?_
      rintro e w1 ⟨v, rfl, hov, hb1⟩
      obtain ⟨a1, c1, rfl, _, _⟩ := hov.parts
      have hsz1 := hb1.size
      have hB1 : Below w.heap.size w w1 := hbw.trans (hb1.mono hsz)
      have hown1 := hown.below hb1 (Nat.le_refl _)
      clear hov hb1 hown hbw
      by_cases hc : 0 < (ofB l k).length
      · rw [if_pos hc] at hstep
        have hc' : 0 < ((ofB l k).length : Int) := by omega
        have HX : Hid (refHousesTo l (k + 1) = rs ++ [k] ∧ OwnI w1 w.heap.size u3 rs) := ⟨hstep, hown1⟩
        clear hstep hown1 hc
        go_wp2_with (at_builtin; refine wpList_append_int _ rfl _ _ rfl w.heap.size u3 rs rfl (HX.out.2.below (below1 w1 _) (Nat.le_refl _)) w1.heap.size k rfl (by exact heap_alloc_new w1 _) (by omega) (by simp; omega) ?_; intro g cap' w2 hown2 hgrow hat hlt2)
        have hB2 : Below w.heap.size w w2 := (hB1.alloc (by omega) _).grown hgrow (by simp; omega) HX.out.2.row
        clear hgrow hat
        go_wp2
        go_roundw
        case rel => exact ⟨k + 1, by omega, by omega, by go_num, by rw [HX.out.1]; exact hown2, hB2⟩
        case measure => simp [intOf]; omega
      · rw [if_neg hc] at hstep
        have hc' : ¬ 0 < ((ofB l k).length : Int) := by omega
        have HX : Hid (refHousesTo l (k + 1) = rs ∧ OwnI w1 w.heap.size u3 rs) := ⟨hstep, hown1⟩
        clear hstep hown1 hc
        go_wp2
        go_roundw
        case rel => exact ⟨k + 1, by omega, by omega, by go_num, by rw [HX.out.1]; exact HX.out.2, hB1⟩
        case measure => simp [intOf]; omega
    · have hk3 : k = 3 := by omega
      subst hk3
      have HX : Hid (OwnI wr w.heap.size u3 (refHousesTo l 3)) := hown
      clear hown hp
      go_wp2
      go_ret
      exact ⟨_, rfl, HX.out, hbw⟩

theorem take_succ_eq {l1 l2 : List P3} {k : Nat} (h1 : k < l1.length) (h2 : k < l2.length) (h : l1.take k = l2.take k) (he : l1[k] = l2[k]) : l1.take (k + 1) = l2.take (k + 1) := by
  rw [take_snoc h1, take_snoc h2, h, he]

set_option maxHeartbeats 1000000 in
theorem sameParts_any (a1 a2 : Option Addr) (l1 l2 : List P3) (c1 c2 n1 n2 : Nat) (w : World) (hn1 : n1 = l1.length) (hn2 : n2 = l2.length) (hl1 : l1.length ≤ 1000000) (hl2 : l2.length ≤ 1000000) (hp1 : PartsAt w a1 l1) (hp2 : PartsAt w a2 l2) :
    Calls Try.prog 11 #[.slice a1 n1 c1, .slice a2 n2 c2] w fun e w' => e = .returned (.bool (decide (l1 = l2))) ∧ Below w.heap.size w w' := by
  subst hn1 hn2
  by_cases hne : l1.length = l2.length
  · have hne' : ((l1.length : Int) == (l2.length : Int)) = true := by simp [hne]
    have hne2 : ((l1.length : Int) != (l2.length : Int)) = false := by simp [hne]
    have HNE : Hid (l1.length = l2.length) := hne
    clear hne
    go_enter Try.func11, Try.ntmps11
    go_wp2
    go_loopw [13] (fun i w' => ∃ k : Nat, k ≤ l1.length ∧ i = .int .i64 k ∧ Hid (l1.take k = l2.take k) ∧ Below w.heap.size w w') (fun i _ => l1.length - (intOf i).toNat)
    case atStart => exact ⟨0, Nat.zero_le _, rfl, rfl, Below.refl _ _⟩
    case round =>
      obtain ⟨k, hk, rfl, hn, hbw⟩ := hrel
      by_cases hlt : k < l1.length
      · have hlt2 : k < l2.length := by have := HNE.out; omega
        rcases hp1 with rfl | ⟨b1, o1, rfl, hb1, hc1⟩
        · simp at hlt
        rcases hp2 with rfl | ⟨b2, o2, rfl, hb2, hc2⟩
        · simp at hlt2
        obtain ⟨d0, d1, d2⟩ := hc1 k hlt
        obtain ⟨e0, e1, e2⟩ := hc2 k hlt2
        clear hc1 hc2
        obtain ⟨hcc, hff⟩ := bcell hbw
        by_cases he : l1[k] = l2[k]
        · have HT : Hid (l1.take (k + 1) = l2.take (k + 1)) := take_succ_eq hlt hlt2 hn.out he
          rw [← he] at e0 e1 e2
          clear hn he
          go_wp2
          go_quiet (fail)
          go_wp2
          go_roundw
          case rel => exact ⟨k + 1, by omega, by go_num, HT, below_drewN hbw _⟩
          case measure => simp [intOf]; omega
        · have hl : ¬ l1 = l2 := by intro h; subst h; exact he rfl
          have HF : Hid (decide (l1 = l2) = false) := by show _ = _; simpa using hl
          have h3 : ¬ (l1[k].1 = l2[k].1 ∧ l1[k].2.1 = l2[k].2.1 ∧ l1[k].2.2 = l2[k].2.2) := by
            rintro ⟨x, y, z⟩
            exact he (Prod.ext x (Prod.ext y z))
          clear hn he hl
          generalize l1[k].1 = p0 at *
          generalize l1[k].2.1 = p1 at *
          generalize l1[k].2.2 = p2 at *
          generalize l2[k].1 = q0 at *
          generalize l2[k].2.1 = q1 at *
          generalize l2[k].2.2 = q2 at *
          by_cases g0 : p0 = q0
          · subst g0
            by_cases g1 : p1 = q1
            · subst g1
              have g2 : (p2 == q2) = false := by
                rw [beq_eq_false_iff_ne]
                intro h
                exact h3 ⟨rfl, rfl, h⟩
              clear h3
              go_wp2
              go_quiet (fail)
              go_wp2
              go_ret
              exact ⟨ret_bool HF.out.symm, below_drewN hbw _⟩
            · have g1' : (p1 == q1) = false := by simpa using g1
              clear h3 g1
              go_wp2
              go_quiet (fail)
              go_wp2
              go_ret
              exact ⟨ret_bool HF.out.symm, below_drewN hbw _⟩
          · have g0' : (p0 == q0) = false := by simpa using g0
            clear h3 g0
            go_wp2
            go_quiet (fail)
            go_wp2
            go_ret
            exact ⟨ret_bool HF.out.symm, below_drewN hbw _⟩
      · have HT : Hid (decide (l1 = l2) = true) := by
          have e1 := hn.out
          have e2 := HNE.out
          rw [List.take_of_length_le (by omega), List.take_of_length_le (by omega)] at e1
          show _ = _
          simpa using e1
        clear hn hp1 hp2
        go_wp2
        go_ret
        exact ⟨ret_bool HT.out.symm, hbw⟩
  · have hne' : ((l1.length : Int) == (l2.length : Int)) = false := by simp; omega
    have hne2 : ((l1.length : Int) != (l2.length : Int)) = true := by simp; omega
    have HF : Hid (decide (l1 = l2) = false) := by
      show _ = _
      simp
      intro h
      exact hne (by rw [h])
    clear hne hp1 hp2
    go_enter Try.func11, Try.ntmps11
    go_wp2
    go_ret
    exact ⟨ret_bool HF.out.symm, Below.refl _ _⟩

end Go.Proofs.Ytembpegakcooeaa
