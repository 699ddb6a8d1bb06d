/- Several texts in one: What the document's SameParts, SameLog and SameReady do with two lists that say the same: they only read; What the document's Wrong of a message does. -/
import Derived.Test.YtikmnaegalmfeaaKLog1
import Derived.Test.YtikmnaegalmfeaaKHouseP
import Derived.Test.YtikmnaegalmfeaaKRef1
import Derived.Test.YtikmnaegalmfeaaKJ02
import Derived.BigQuiet
import Derived.WalkSmall
namespace Go.Proofs.Ytikmnaegalmfeaa
open Go.RowKit
attribute [local go_sem ↓] Go.wp_at_zero Go.wp_at_succ

theorem PartsAt.get {w : World} {a : Option Addr} {l : List P3} (h : PartsAt w a l) {k : Nat} (hk : k < l.length) : ∃ b o, a = some ⟨b, o, none⟩ ∧ b < w.heap.size ∧ w.cell? ⟨b, o + k * 3, none⟩ = some (.int .i64 l[k].1) ∧ w.cell? ⟨b, o + k * 3 + 1, none⟩ = some (.int .i64 l[k].2.1) ∧ w.cell? ⟨b, o + k * 3 + 2, none⟩ = some (.int .i64 l[k].2.2) := by
  rcases h with rfl | ⟨b, o, rfl, hlt, hc⟩
  · simp at hk
  · exact ⟨b, o, rfl, hlt, hc k hk⟩

end Go.Proofs.Ytikmnaegalmfeaa

namespace Go.Proofs.Ytikmnaegalmfeaa
open Go.RowKit
attribute [local go_sem ↓] Go.wp_at_zero Go.wp_at_succ

theorem far_take {l : List P3} {k : Nat} (h : k < l.length) (hs : Int) : ((l.take (k + 1)).any fun p => !decide (p.1 = hs)) = (((l.take k).any fun p => !decide (p.1 = hs)) || !decide (l[k].1 = hs)) := by rw [take_snoc h, List.any_append, List.any_cons, List.any_nil, Bool.or_false]

set_option maxRecDepth 20000 in
set_option maxHeartbeats 2000000 in
theorem refWrong_any (k d hs : Int) (a : Option Addr) (l : List P3) (cap n : Nat) (w : World) (hn : n = l.length) (hl : l.length ≤ 9223372036854775807) (hp : PartsAt w a l) :
    Calls Try.prog 18 #[.agg #[.int .i64 k, .int .i64 d, .int .i64 hs, .slice a n cap]] w fun e w' => e = .returned (.int .i64 (wrongMB k d hs l)) ∧ Below w.heap.size w w' := by
  have hbX := below1 w (.cells #[.int .i64 k, .int .i64 d, .int .i64 hs, .slice a n cap] 25)
  have hm0 : Blk (w.alloc (.cells #[.int .i64 k, .int .i64 d, .int .i64 hs, .slice a n cap] 25)) w.heap.size #[.int .i64 k, .int .i64 d, .int .i64 hs, .slice a n cap] 25 := Blk.new _ _ _
  have HN : Hid (n = l.length ∧ PartsAt w a l ∧ l.length ≤ 9223372036854775807) := ⟨hn, hp, hl⟩
  have hnl : n ≤ 9223372036854775807 := by omega
  clear hn hp hl
  by_cases h1 : k < 1 ∨ 7 < k
  · have HF : Hid (wrongMB k d hs l = 1) := by show _ = _; unfold wrongMB; rw [if_pos h1]
    go_enter Try.func18, Try.ntmps18
    by_cases h1a : k < 1
    · clear h1
      go_wp2
      go_ret
      exact ⟨ret_int HF.out.symm, hbX⟩
    · have h1b : 7 < k := by omega
      clear h1
      go_wp2
      go_ret
      exact ⟨ret_int HF.out.symm, hbX⟩
  have h1a : ¬ k < 1 := by omega
  have h1b : ¬ 7 < k := by omega
  by_cases h2 : d < 0 ∨ 1343 < d ∨ hs < 0 ∨ 2 < hs
  · have HF : Hid (wrongMB k d hs l = 3) := by show _ = _; unfold wrongMB; rw [if_neg h1, if_pos h2]
    clear h1
    go_enter Try.func18, Try.ntmps18
    by_cases c1 : d < 0
    · clear h2
      go_wp2
      go_ret
      exact ⟨ret_int HF.out.symm, hbX⟩
    · by_cases c2 : 1343 < d
      · clear h2
        go_wp2
        go_ret
        exact ⟨ret_int HF.out.symm, hbX⟩
      · by_cases c3 : hs < 0
        · clear h2
          go_wp2
          go_ret
          exact ⟨ret_int HF.out.symm, hbX⟩
        · have c4 : 2 < hs := by omega
          clear h2
          go_wp2
          go_ret
          exact ⟨ret_int HF.out.symm, hbX⟩
  have c1 : ¬ d < 0 := by omega
  have c2 : ¬ 1343 < d := by omega
  have c3 : ¬ hs < 0 := by omega
  have c4 : ¬ 2 < hs := by omega
  by_cases h3 : 1 < k
  · by_cases h4 : n = 0
    · have HF : Hid (wrongMB k d hs l = 0) := by show _ = _; unfold wrongMB; rw [if_neg h1, if_neg h2, if_pos h3, if_pos (by have := HN.out.1; omega)]
      subst h4
      clear h1 h2
      go_enter Try.func18, Try.ntmps18
      go_wp2
      go_ret
      exact ⟨ret_int HF.out.symm, hbX⟩
    · have HF : Hid (wrongMB k d hs l = 5) := by show _ = _; unfold wrongMB; rw [if_neg h1, if_neg h2, if_pos h3, if_neg (by have := HN.out.1; omega)]
      have h4' : ((n : Int) != 0) = true := by simpa using h4
      clear h1 h2 h4
      go_enter Try.func18, Try.ntmps18
      go_wp2
      go_ret
      exact ⟨ret_int HF.out.symm, hbX⟩
  have HE : Hid (wrongMB k d hs l = if wrong l 3 = 0 then (if (l.any fun p => !decide (p.1 = hs)) = true then 3 else 0) else wrong l 3) := by show _ = _; unfold wrongMB; rw [if_neg h1, if_neg h2, if_neg h3]
  clear h1 h2
  go_enter Try.func18, Try.ntmps18
  go_wp2_with fail
  generalize w.alloc (.cells #[.int .i64 k, .int .i64 d, .int .i64 hs, .slice a n cap] 25) = W at *
  refine (wrongParts_any a l cap n 3 W HN.out.1 HN.out.2.2 (HN.out.2.1.below hbX) (by decide)).mono ?_
  rintro e w1 ⟨rfl, hb1⟩
  have hB1 : Below w.heap.size w w1 := hbX.trans (hb1.mono hbX.size)
  have hm1 := hm0.below hb1 hm0.lt
  clear hb1 hbX hm0
  generalize hwr : wrong l 3 = x at *
  by_cases hx : x = 0
  · subst hx
    have q2 := hm1.cell 2
    have q3 := hm1.cell 3
    have hql := hm1.lt
    simp at q2 q3
    clear hwr
    go_wp2
    clear q2 q3
    go_loopw [48] (fun i w' => ∃ k : Nat, k ≤ n ∧ i = .int .i64 k ∧ Hid (((l.take k).any fun p => !decide (p.1 = hs)) = false) ∧ Below w1.heap.size w1 w') (fun i _ => n - (intOf i).toNat)
    case atStart => exact ⟨0, Nat.zero_le _, rfl, rfl, Below.refl _ _⟩
    case round =>
      obtain ⟨j, hj, rfl, hno, hbw⟩ := hrel
      have hBr : Below w.heap.size w wr := hB1.trans (hbw.mono hB1.size)
      have hmr := hm1.below hbw hm1.lt
      have q2 := hmr.cell 2
      have hqr := hmr.lt
      simp at q2
      by_cases hlt : j < n
      · have hjl : j < l.length := by have := HN.out.1; omega
        rcases HN.out.2.1.below hBr with h0 | ⟨g, o, rfl, hg, hc⟩
        · rw [h0] at hjl; simp at hjl
        obtain ⟨e0, e1, e2⟩ := hc j hjl
        have HS : Hid (((l.take (j + 1)).any fun p => !decide (p.1 = hs)) = !decide (l[j].1 = hs)) := by show _ = _; rw [far_take hjl, hno.out]; rfl
        have HA : Hid (¬ l[j].1 = hs → (l.any fun p => !decide (p.1 = hs)) = true) := fun h => by
          rw [List.any_eq_true]
          exact ⟨_, List.getElem_mem hjl, by simpa using h⟩
        clear hc hno
        generalize l[j] = p at *
        obtain ⟨p0, p1, p2⟩ := p
        simp only at e0 e1 e2 HS HA
        have hbA := below1 wr (.cells #[.int .i64 p0, .int .i64 p1, .int .i64 p2] 45)
        have hBA := hBr.trans (hbA.mono hBr.size)
        have hBm := hbw.trans (hbA.mono hbw.size)
        clear hmr hbw
        by_cases hp : p0 = hs
        · subst hp
          have HF : Hid (((l.take (j + 1)).any fun p => !decide (p.1 = p0)) = false) := by show _ = _; rw [HS.out]; simp
          clear HS HA
          go_wp2
          go_roundw
          case rel => exact ⟨j + 1, by omega, by go_num, HF, hBm⟩
          case measure => simp [intOf]; omega
        · have HF : Hid (wrongMB k d hs l = 3) := by show _ = _; rw [HE.out, if_pos trivial, if_pos (HA.out hp)]
          have hp' : (p0 != hs) = true := by simpa using hp
          clear HS HA hp
          go_wp2
          go_ret
          exact ⟨ret_int HF.out.symm, hBA⟩
      · have HF : Hid (wrongMB k d hs l = 0) := by
          have h := hno.out
          rw [List.take_of_length_le (by have := HN.out.1; omega)] at h
          show _ = _
          rw [HE.out, if_pos trivial, h]
          rfl
        clear hno
        go_wp2
        go_ret
        exact ⟨ret_int HF.out.symm, hBr⟩
  · have HF : Hid (wrongMB k d hs l = x) := by show _ = _; rw [HE.out, if_neg hx]
    have hx' : (x != 0) = true := by simpa using hx
    clear hx hwr HE
    go_wp2
    go_ret
    exact ⟨ret_int HF.out.symm, hB1⟩

end Go.Proofs.Ytikmnaegalmfeaa
