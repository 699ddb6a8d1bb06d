/- What the document's SameInts does with two lists of the same numbers. -/
import Derived.Test.YteinegcoenlkcacLog1
import Derived.WalkSmall
namespace Go.Proofs.Yteinegcoenlkcac
open Go.RowKit
attribute [local go_sem ↓] Go.wp_at_zero Go.wp_at_succ

theorem RowAt.getI {w : World} {a : Option Addr} {l : List Int} (h : RowAt 1 encI w a l) {k : Nat} (hk : k < l.length) : ∃ b o, a = some ⟨b, o, none⟩ ∧ b < w.heap.size ∧ w.cell? ⟨b, o + k, none⟩ = some (.int .i64 l[k]) := by
  rcases h with rfl | ⟨b, o, rfl, hlt, hc⟩
  · simp at hk
  · have := hc k hk 0 _ rfl
    rw [Nat.mul_one, Nat.add_zero] at this
    exact ⟨b, o, rfl, hlt, this⟩

theorem drewN_below (w : World) (n : Nat) : Below w.heap.size w (w.drewN n) := below_drewN (Below.refl _ _) n

set_option maxHeartbeats 1000000 in
theorem sameInts_q (a1 a2 : Option Addr) (l : List Int) (c1 c2 n1 n2 : Nat) (w : World) (hn1 : n1 = l.length) (hn2 : n2 = l.length) (hl : l.length ≤ 9223372036854775807) (hp1 : RowAt 1 encI w a1 l) (hp2 : RowAt 1 encI w a2 l) :
    Calls Try.prog 13 #[.slice a1 n1 c1, .slice a2 n2 c2] w fun e w' => e = .returned (.bool true) ∧ ∃ m, w' = w.drewN m := by
  subst hn2
  subst hn1
  have HP : Hid (RowAt 1 encI w a1 l ∧ RowAt 1 encI w a2 l) := ⟨hp1, hp2⟩
  clear hp1 hp2
  generalize hll : l.length = n at *
  have HL : Hid (l.length = n) := hll
  clear hll
  go_enter Try.func13, Try.ntmps13
  go_wp2
  go_loopw [13] (fun i w' => ∃ k m : Nat, k ≤ n ∧ i = .int .i64 k ∧ w' = w.drewN m) (fun i _ => n - (intOf i).toNat)
  case atStart => exact ⟨0, 0, Nat.zero_le _, rfl, rfl⟩
  case round =>
    obtain ⟨k, m, hk, rfl, rfl⟩ := hrel
    by_cases hlt : k < n
    · have hkl : k < l.length := by rw [HL.out]; exact hlt
      obtain ⟨b1, o1, rfl, hb1, d1⟩ := HP.out.1.getI hkl
      obtain ⟨b2, o2, rfl, hb2, d2⟩ := HP.out.2.getI hkl
      generalize l[k] = x at *
      go_wp2
      go_quiet (fail)
      go_wp2
      go_roundw
      case rel => exact ⟨k + 1, _, by omega, by go_num, rfl⟩
      case measure => simp [intOf]; omega
    · go_wp2
      go_ret
      exact ⟨rfl, m, rfl⟩

end Go.Proofs.Yteinegcoenlkcac
