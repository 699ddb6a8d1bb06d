/- Several texts in one: What the document's SameInts does with two lists of the same numbers; What the document's SameParts, SameLog and SameReady do with two lists that say the same: they only read. -/
import Derived.Test.YtikmnaegalmfeaaKLog1
import Derived.WalkSmall
import Derived.BigQuiet
namespace Go.Proofs.Ytikmnaegalmfeaa
open Go.RowKit
attribute [local go_sem ↓] Go.wp_at_zero Go.wp_at_succ

theorem RowAt.getI {w : World} {a : Option Addr} {l : List Int} (h : RowAt 1 encI w a l) {k : Nat} (hk : k < l.length) : ∃ b o, a = some ⟨b, o, none⟩ ∧ b < w.heap.size ∧ w.cell? ⟨b, o + k, none⟩ = some (.int .i64 l[k]) := by
  rcases h with rfl | ⟨b, o, rfl, hlt, hc⟩
  · simp at hk
  · have := hc k hk 0 _ rfl
    rw [Nat.mul_one, Nat.add_zero] at this
    exact ⟨b, o, rfl, hlt, this⟩

theorem drewN_below (w : World) (n : Nat) : Below w.heap.size w (w.drewN n) := below_drewN (Below.refl _ _) n

set_option maxHeartbeats 1000000 in
theorem sameInts_q (a1 a2 : Option Addr) (l : List Int) (c1 c2 n1 n2 : Nat) (w : World) (hn1 : n1 = l.length) (hn2 : n2 = l.length) (hl : l.length ≤ 9223372036854775807) (hp1 : RowAt 1 encI w a1 l) (hp2 : RowAt 1 encI w a2 l) :
    Calls Try.prog 44 #[.slice a1 n1 c1, .slice a2 n2 c2] w fun e w' => e = .returned (.bool true) ∧ ∃ m, w' = w.drewN m := by
  subst hn2
  subst hn1
  have HP : Hid (RowAt 1 encI w a1 l ∧ RowAt 1 encI w a2 l) := ⟨hp1, hp2⟩
  clear hp1 hp2
  generalize hll : l.length = n at *
  have HL : Hid (l.length = n) := hll
  clear hll
  go_enter Try.func44, Try.ntmps44
  go_wp2
  go_loopw [13] (fun i w' => ∃ k m : Nat, k ≤ n ∧ i = .int .i64 k ∧ w' = w.drewN m) (fun i _ => n - (intOf i).toNat)
  case atStart => exact ⟨0, 0, Nat.zero_le _, rfl, rfl⟩
  case round =>
    obtain ⟨k, m, hk, rfl, rfl⟩ := hrel
    by_cases hlt : k < n
    · have hkl : k < l.length := by rw [HL.out]; exact hlt
      obtain ⟨b1, o1, rfl, hb1, d1⟩ := HP.out.1.getI hkl
      obtain ⟨b2, o2, rfl, hb2, d2⟩ := HP.out.2.getI hkl
      generalize l[k] = x at *
      go_wp2
      go_quiet (fail)
      go_wp2
      go_roundw
      case rel => exact ⟨k + 1, _, by omega, by go_num, rfl⟩
      case measure => simp [intOf]; omega
    · go_wp2
      go_ret
      exact ⟨rfl, m, rfl⟩

end Go.Proofs.Ytikmnaegalmfeaa

namespace Go.Proofs.Ytikmnaegalmfeaa
open Go.RowKit
attribute [local go_sem ↓] Go.wp_at_zero Go.wp_at_succ

theorem PartsAt.get {w : World} {a : Option Addr} {l : List P3} (h : PartsAt w a l) {k : Nat} (hk : k < l.length) : ∃ b o, a = some ⟨b, o, none⟩ ∧ b < w.heap.size ∧ w.cell? ⟨b, o + k * 3, none⟩ = some (.int .i64 l[k].1) ∧ w.cell? ⟨b, o + k * 3 + 1, none⟩ = some (.int .i64 l[k].2.1) ∧ w.cell? ⟨b, o + k * 3 + 2, none⟩ = some (.int .i64 l[k].2.2) := by
  rcases h with rfl | ⟨b, o, rfl, hlt, hc⟩
  · simp at hk
  · exact ⟨b, o, rfl, hlt, hc k hk⟩

set_option maxHeartbeats 1000000 in
theorem sameParts_q (a1 a2 : Option Addr) (l : List P3) (c1 c2 n1 n2 : Nat) (w : World) (hn1 : n1 = l.length) (hn2 : n2 = l.length) (hl : l.length ≤ 9223372036854775807) (hp1 : PartsAt w a1 l) (hp2 : PartsAt w a2 l) :
    Calls Try.prog 74 #[.slice a1 n1 c1, .slice a2 n2 c2] w fun e w' => e = .returned (.bool true) ∧ ∃ m, w' = w.drewN m := by
  subst hn2
  subst hn1
  have HP : Hid (PartsAt w a1 l ∧ PartsAt w a2 l) := ⟨hp1, hp2⟩
  clear hp1 hp2
  generalize hll : l.length = n at *
  have HL : Hid (l.length = n) := hll
  clear hll
  go_enter Try.func74, Try.ntmps74
  go_wp2
  go_loopw [13] (fun i w' => ∃ k m : Nat, k ≤ n ∧ i = .int .i64 k ∧ w' = w.drewN m) (fun i _ => n - (intOf i).toNat)
  case atStart => exact ⟨0, 0, Nat.zero_le _, rfl, rfl⟩
  case round =>
    obtain ⟨k, m, hk, rfl, rfl⟩ := hrel
    by_cases hlt : k < n
    · have hkl : k < l.length := by rw [HL.out]; exact hlt
      obtain ⟨b1, o1, rfl, hb1, d1, d2, d3⟩ := HP.out.1.get hkl
      obtain ⟨b2, o2, rfl, hb2, e1, e2, e3⟩ := HP.out.2.get hkl
      generalize l[k] = x at *
      obtain ⟨x0, x1, x2⟩ := x
      simp only at d1 d2 d3 e1 e2 e3
      go_wp2
      go_quiet (fail)
      go_wp2
      go_roundw
      case rel => exact ⟨k + 1, _, by omega, by go_num, rfl⟩
      case measure => simp [intOf]; omega
    · go_wp2
      go_ret
      exact ⟨rfl, m, rfl⟩

theorem map_get {α β : Type} {f : α → β} {X Y : List α} (h : X.map f = Y.map f) {k : Nat} (h1 : k < X.length) (h2 : k < Y.length) : f X[k] = f Y[k] := by
  have e : (X.map f)[k]? = (Y.map f)[k]? := by rw [h]
  rw [List.getElem?_map, List.getElem?_map, List.getElem?_eq_getElem h1, List.getElem?_eq_getElem h2] at e
  simpa using e

set_option maxRecDepth 20000 in
set_option maxHeartbeats 1000000 in
theorem sameLog_q (a1 a2 : Option Addr) (X1 X2 : List XL) (c1 c2 n1 n2 : Nat) (w : World) (hn1 : n1 = X1.length) (hn2 : n2 = X2.length) (he : X1.map stripL = X2.map stripL) (hl : X1.length ≤ 9223372036854775807) (hok : ∀ x ∈ X1, x.2.2.2.length ≤ 9223372036854775807) (hp1 : RecsAt w a1 X1) (hp2 : RecsAt w a2 X2) :
    Calls Try.prog 42 #[.slice a1 n1 c1, .slice a2 n2 c2] w fun e w' => e = .returned (.bool true) ∧ ∃ m, w' = w.drewN m := by
  have hlen : X1.length = X2.length := by have := congrArg List.length he; simpa using this
  have e2 : n2 = n1 := by omega
  subst e2
  have HP : Hid (RecsAt w a1 X1 ∧ RecsAt w a2 X2 ∧ X1.map stripL = X2.map stripL ∧ n2 = X1.length ∧ n2 = X2.length ∧ ∀ x ∈ X1, x.2.2.2.length ≤ 9223372036854775807) := ⟨hp1, hp2, he, hn1, hn2, hok⟩
  have hnl : n2 ≤ 9223372036854775807 := by omega
  clear hp1 hp2 he hn1 hn2 hok hlen hl
  generalize n2 = n at *
  go_enter Try.func42, Try.ntmps42
  go_wp2
  go_loopw [13] (fun i w' => ∃ k m : Nat, k ≤ n ∧ i = .int .i64 k ∧ Hid (w' = w.drewN m)) (fun i _ => n - (intOf i).toNat)
  case atStart => exact ⟨0, 0, Nat.zero_le _, rfl, rfl⟩
  case round =>
    obtain ⟨k, m, hk, rfl, hwr⟩ := hrel
    have hbw : Below w.heap.size w wr := by rw [hwr.out]; exact drewN_below w m
    by_cases hlt : k < n
    · have hk1 : k < X1.length := by have := HP.out.2.2.2.1; omega
      have hk2 : k < X2.length := by have := HP.out.2.2.2.2.1; omega
      obtain ⟨b1, o1, rfl, hb1, p0, p1, p2, hq1⟩ := (HP.out.1.below hbw).get hk1
      obtain ⟨b2, o2, rfl, hb2, q0, q1, q2, hq2⟩ := (HP.out.2.1.below hbw).get hk2
      have hx := map_get HP.out.2.2.1 hk1 hk2
      have hm := HP.out.2.2.2.2.2 _ (List.getElem_mem hk1)
      generalize X1[k] = x1 at *
      generalize X2[k] = x2 at *
      obtain ⟨kd, dd, ⟨ax, cx⟩, l⟩ := x1
      obtain ⟨kd2, dd2, ⟨ay, cy⟩, l2⟩ := x2
      simp only [stripL, Prod.mk.injEq] at hx
      obtain ⟨rfl, rfl, rfl⟩ := hx
      simp only at p0 p1 p2 q0 q1 q2 hq1 hq2 hm
      have HQ : Hid (∀ W : World, Below wr.heap.size wr W → PartsAt W ax l ∧ PartsAt W ay l) := fun W hW => ⟨hq1.below hW, hq2.below hW⟩
      have HM : Hid (l.length ≤ 9223372036854775807) := hm
      clear hq1 hq2 hm
      generalize hll : l.length = nl at *
      have HLL : Hid (l.length = nl) := hll
      clear hll
      go_wp2
      go_quiet ((go_at_call 74; exact Calls.quiet_of (sameParts_q ax ay l cx cy nl nl _ HLL.out.symm HLL.out.symm (by have := HM.out; have := HLL.out; omega) (HQ.out _ (drewN_below _ _)).1 (HQ.out _ (drewN_below _ _)).2)))
      go_wp2
      go_roundw
      case rel => exact ⟨k + 1, m + nq, by omega, by go_num, by rw [hwr.out, World.drewN_drewN]; rfl⟩
      case measure => simp [intOf]; omega
    · go_wp2
      go_ret
      exact ⟨rfl, m, hwr.out⟩

set_option maxRecDepth 20000 in
set_option maxHeartbeats 1000000 in
theorem sameReady_q (a1 a2 : Option Addr) (X1 X2 : List XD) (c1 c2 n1 n2 : Nat) (w : World) (hn1 : n1 = X1.length) (hn2 : n2 = X2.length) (he : X1.map stripD = X2.map stripD) (hl : X1.length ≤ 9223372036854775807) (hok : ∀ x ∈ X1, x.2.2.length ≤ 9223372036854775807) (hp1 : DeedsAt w a1 X1) (hp2 : DeedsAt w a2 X2) :
    Calls Try.prog 43 #[.slice a1 n1 c1, .slice a2 n2 c2] w fun e w' => e = .returned (.bool true) ∧ ∃ m, w' = w.drewN m := by
  have hlen : X1.length = X2.length := by have := congrArg List.length he; simpa using this
  have e2 : n2 = n1 := by omega
  subst e2
  have HP : Hid (DeedsAt w a1 X1 ∧ DeedsAt w a2 X2 ∧ X1.map stripD = X2.map stripD ∧ n2 = X1.length ∧ n2 = X2.length ∧ ∀ x ∈ X1, x.2.2.length ≤ 9223372036854775807) := ⟨hp1, hp2, he, hn1, hn2, hok⟩
  have hnl : n2 ≤ 9223372036854775807 := by omega
  clear hp1 hp2 he hn1 hn2 hok hlen hl
  generalize n2 = n at *
  go_enter Try.func43, Try.ntmps43
  go_wp2
  go_loopw [13] (fun i w' => ∃ k m : Nat, k ≤ n ∧ i = .int .i64 k ∧ Hid (w' = w.drewN m)) (fun i _ => n - (intOf i).toNat)
  case atStart => exact ⟨0, 0, Nat.zero_le _, rfl, rfl⟩
  case round =>
    obtain ⟨k, m, hk, rfl, hwr⟩ := hrel
    have hbw : Below w.heap.size w wr := by rw [hwr.out]; exact drewN_below w m
    by_cases hlt : k < n
    · have hk1 : k < X1.length := by have := HP.out.2.2.2.1; omega
      have hk2 : k < X2.length := by have := HP.out.2.2.2.2.1; omega
      obtain ⟨b1, o1, rfl, hb1, p0, p1, hq1⟩ := (HP.out.1.below hbw).get hk1
      obtain ⟨b2, o2, rfl, hb2, q0, q1, hq2⟩ := (HP.out.2.1.below hbw).get hk2
      have hx := map_get HP.out.2.2.1 hk1 hk2
      have hm := HP.out.2.2.2.2.2 _ (List.getElem_mem hk1)
      generalize X1[k] = x1 at *
      generalize X2[k] = x2 at *
      obtain ⟨dd, ⟨ax, cx⟩, l⟩ := x1
      obtain ⟨dd2, ⟨ay, cy⟩, l2⟩ := x2
      simp only [stripD, Prod.mk.injEq] at hx
      obtain ⟨rfl, rfl⟩ := hx
      simp only at p0 p1 q0 q1 hq1 hq2 hm
      have HQ : Hid (∀ W : World, Below wr.heap.size wr W → PartsAt W ax l ∧ PartsAt W ay l) := fun W hW => ⟨hq1.below hW, hq2.below hW⟩
      have HM : Hid (l.length ≤ 9223372036854775807) := hm
      clear hq1 hq2 hm
      generalize hll : l.length = nl at *
      have HLL : Hid (l.length = nl) := hll
      clear hll
      go_wp2
      go_quiet ((go_at_call 74; exact Calls.quiet_of (sameParts_q ax ay l cx cy nl nl _ HLL.out.symm HLL.out.symm (by have := HM.out; have := HLL.out; omega) (HQ.out _ (drewN_below _ _)).1 (HQ.out _ (drewN_below _ _)).2)))
      go_wp2
      go_roundw
      case rel => exact ⟨k + 1, m + nq, by omega, by go_num, by rw [hwr.out, World.drewN_drewN]; rfl⟩
      case measure => simp [intOf]; omega
    · go_wp2
      go_ret
      exact ⟨rfl, m, hwr.out⟩

end Go.Proofs.Ytikmnaegalmfeaa
