/- What slices.Clone of sums and model.Total do. -/
import Derived.Test.YtmihdckjoodjeabModel1
import Derived.Test.YtmihdckjoodjeabPart3
import Derived.Lib.SliceRun
namespace Go.Proofs.Ytmihdckjoodjeab
open Go.RowKit
attribute [local go_sem ↓] Go.wp_at_zero Go.wp_at_succ

set_option maxHeartbeats 1000000 in
theorem clone_any (a : Option Addr) (S : List S4) (cap n : Nat) (w : World) (hn : n = S.length) (hl : S.length ≤ 1000) (hp : SumsL w a S) :
    Calls Try.prog 16 #[.slice a n cap] w fun e w' => ∃ v, e = .returned v ∧ OwnM w' w.heap.size v S ∧ Below w.heap.size w w' := by
  have q : ∀ (w : World) (a : Option Addr) (n c n' c' : Nat), (binOp .eql 22 (.slice a n c) (.slice none n' c')).run Try.prog w = .ok (.bool a.isNone) w := fun w a n c n' c' => Lib.run_eql_slice_nil w _ _ a n c n' c' Try.underlying22
  cases a with
  | none =>
    have h0 : S = [] := by
      rcases hp with h | ⟨b, o, h, _⟩
      · exact h
      · cases h
    subst h0
    subst hn
    clear hp
    go_enter Try.func16, Try.ntmps16
    go_wp2
    go_ret
    exact ⟨_, rfl, World.ownsRow_nil _ _ _ _, Below.refl _ _⟩
  | some ad =>
    have HP : Hid (SumsL w (some ad) S) := hp
    have HN : Hid (n = S.length) := hn
    clear hp hn
    go_enter Try.func16, Try.ntmps16
    go_wp2_with (at_builtin; refine wpList_append_sums _ rfl _ _ rfl w.heap.size _ [] rfl (World.ownsRow_made w #[] 0 (Nat.le_refl _) (Nat.zero_le _) (by simp)) (some ad) n cap S rfl HN.out (HP.out.below (below1 w _)) (by simp; omega) (by simp) ?_; intro v' w1 hown hgrow hat)
    go_wp2
    go_ret
    refine ⟨v', rfl, by simpa using hown, ?_⟩
    exact ((Below.refl _ w).alloc (Nat.le_refl _) _).grown hgrow (by simp) (by intro k hk; cases hk; exact Nat.le_refl _)

attribute [local go_sem ↓] idx4_0 idx4_1 idx4_2 idx4_3

theorem total_take {S : List S4} {k : Nat} (h : k < S.length) : totalB (S.take (k + 1)) = totalB (S.take k) + sum4 S[k] := by
  rw [take_snoc h]
  simp only [totalB, List.map_append, List.sum_append, List.map_cons, List.map_nil, List.sum_cons, List.sum_nil, Int.add_zero]
theorem total_bound {B : Int} {S : List S4} (hb : ∀ s ∈ S, -B ≤ sum4 s ∧ sum4 s ≤ B) : -(S.length * B) ≤ totalB S ∧ totalB S ≤ S.length * B := by
  induction S with
  | nil => simp [totalB]
  | cons s t ih =>
    have h1 := hb s (by simp)
    have h2 := ih (fun x hx => hb x (by simp [hx]))
    simp only [totalB, List.map_cons, List.sum_cons, List.length_cons] at *
    have e : ((t.length + 1 : Nat) : Int) * B = t.length * B + B := by
      rw [show ((t.length + 1 : Nat) : Int) = (t.length : Int) + 1 by omega, Int.add_mul, Int.one_mul]
    rw [e]
    omega

set_option maxHeartbeats 1000000 in
theorem total_any (a : Option Addr) (S : List S4) (cap n : Nat) (w : World) (hn : n = S.length) (hl : S.length ≤ 3) (hp : SumsL w a S) (hr : RightM S) :
    Calls Try.prog 10 #[.slice a n cap] w fun e w' => e = .returned (.int .i64 (totalB S)) ∧ Below w.heap.size w w' := by
  subst hn
  go_enter Try.func10, Try.ntmps10
  go_wp2
  go_loopw [3, 10] (fun t i w' => ∃ k : Nat, k ≤ S.length ∧ i = .int .i64 k ∧ t = .int .i64 (totalB (S.take k)) ∧ Below w.heap.size w w') (fun _ i _ => S.length - (intOf i).toNat)
  case atStart => exact ⟨0, Nat.zero_le _, rfl, rfl, Below.refl _ _⟩
  case round =>
    obtain ⟨k, hk, rfl, rfl, hbw⟩ := hrel
    by_cases hlt : k < S.length
    · rcases hp with rfl | ⟨b', o, rfl, hb', hc⟩
      · simp at hlt
      obtain ⟨d0, d1, d2, d3⟩ := hc k hlt
      clear hc
      obtain ⟨hcc, hff⟩ := bcell hbw
      have hsz := hbw.size
      have HT : Hid (totalB (S.take (k + 1)) = totalB (S.take k) + sum4 S[k]) := total_take hlt
      have hsr := hr _ (List.getElem_mem hlt)
      have hw := within_right hsr
      have htb : -12582912 ≤ totalB (S.take k) ∧ totalB (S.take k) ≤ 12582912 := by
        have := total_bound (B := 4194304) (S := S.take k) (fun s hs => by have := sum4_bound (hr s (List.mem_of_mem_take hs)); omega)
        have h2 : (S.take k).length ≤ 3 := by simp; omega
        have h3 : ((S.take k).length : Int) * 4194304 ≤ 12582912 := by omega
        omega
      obtain ⟨⟨a1, a2⟩, ⟨b1, b2⟩, ⟨c1, c2⟩, ⟨e1, e2⟩⟩ := hw
      simp only [sum4] at HT
      have HR : Hid (∀ s ∈ S, rightS s = true) := hr
      clear hr hsr
      generalize totalB (S.take k) = T at *
      generalize S[k].1 = s0 at *
      generalize S[k].2.1 = s1 at *
      generalize S[k].2.2.1 = s2 at *
      generalize S[k].2.2.2 = s3 at *
      obtain ⟨t1, t2⟩ := htb
      go_wp2
      go_loopw [3, 15] (fun t i w' => (i = .int .i64 0 ∧ t = .int .i64 T ∨ i = .int .i64 1 ∧ t = .int .i64 (T + s0) ∨ i = .int .i64 2 ∧ t = .int .i64 (T + s0 + s1) ∨ i = .int .i64 3 ∧ t = .int .i64 (T + s0 + s1 + s2) ∨ i = .int .i64 4 ∧ t = .int .i64 (T + s0 + s1 + s2 + s3)) ∧ Below w.heap.size w w') (fun _ i _ => 4 - (intOf i).toNat)
      case atStart => exact ⟨Or.inl ⟨rfl, rfl⟩, hbw.alloc (by omega) _⟩
      case round =>
        obtain ⟨hc, hbx⟩ := hrel
        rcases hc with ⟨rfl, rfl⟩ | ⟨rfl, rfl⟩ | ⟨rfl, rfl⟩ | ⟨rfl, rfl⟩ | ⟨rfl, rfl⟩
        · go_wp2
          go_roundw
          case rel => exact ⟨Or.inr (Or.inl ⟨rfl, rfl⟩), hbx⟩
          case measure => simp [intOf]
        · go_wp2
          go_roundw
          case rel => exact ⟨Or.inr (Or.inr (Or.inl ⟨rfl, rfl⟩)), hbx⟩
          case measure => simp [intOf]
        · go_wp2
          go_roundw
          case rel => exact ⟨Or.inr (Or.inr (Or.inr (Or.inl ⟨rfl, rfl⟩))), hbx⟩
          case measure => simp [intOf]
        · go_wp2
          go_roundw
          case rel => exact ⟨Or.inr (Or.inr (Or.inr (Or.inr ⟨rfl, rfl⟩))), hbx⟩
          case measure => simp [intOf]
        · go_wp2
          go_roundw
          case rel => exact ⟨k + 1, by omega, by go_num, by rw [HT.out]; congr 1; omega, hbx⟩
          case measure => simp [intOf]; omega
    · have HE : Hid (totalB (S.take k) = totalB S) := by show _ = _; rw [List.take_of_length_le (by omega)]
      clear hp
      generalize totalB (S.take k) = T at *
      go_wp2
      go_ret
      exact ⟨ret_int HE.out, hbw⟩

end Go.Proofs.Ytmihdckjoodjeab
