/- What slices.IndexFunc and slices.ContainsFunc do, with whatever function that tells something of each entry and leaves older memory as it was: deeds, and parts. -/
import Derived.Test.YtikmnaegalmfeaaKLog3
import Derived.Test.YtikmnaegalmfeaaKJ16
namespace Go.Proofs.Ytikmnaegalmfeaa
open Go.RowKit
attribute [local go_sem ↓] Go.wp_at_zero Go.wp_at_succ

/-- The first entry of which p holds, or -1. -/
def IdxP {α : Type} (X : List α) (p : α → Bool) (r : Int) : Prop := (r = -1 ∧ ∀ x ∈ X, p x = false) ∨ ∃ (i : Nat) (h : i < X.length), r = i ∧ p X[i] = true ∧ ∀ j (hj : j < X.length), j < i → p X[j] = false
theorem IdxP.any {α : Type} {X : List α} {p : α → Bool} {r : Int} (h : IdxP X p r) : decide (0 ≤ r) = X.any p := by
  rcases h with ⟨rfl, h⟩ | ⟨i, hi, rfl, hp, _⟩
  · have : X.any p = false := by rw [List.any_eq_false]; intro x hx; rw [h x hx]; simp
    rw [this]; rfl
  · have : X.any p = true := by rw [List.any_eq_true]; exact ⟨_, List.getElem_mem hi, hp⟩
    rw [this]
    exact decide_eq_true (by omega)

/-- A call of the function F enters it. -/
def Enters (F : Nat) : Prop := Hid (∀ (args : Array Value) (w : World), (callFunc F args).run Try.prog w = .ok (.enter F args) w)

set_option maxRecDepth 20000 in
set_option maxHeartbeats 1000000 in
theorem indexR_any (F b : Nat) (hF : Enters F) (p : XD → Bool) (a : Option Addr) (X : List XD) (cap n : Nat) (w : World) (hn : n = X.length) (hl : X.length ≤ 9223372036854775807) (hp : RowAt 2 encD w a X)
    (hf : ∀ x ∈ X, ∀ w', Below w.heap.size w w' → Calls Try.prog F #[.agg #[.int .i64 x.1, .slice x.2.1.1 x.2.2.length x.2.1.2], .pointer (some ⟨b, 0, none⟩)] w' fun e w'' => e = .returned (.bool (p x)) ∧ Below w'.heap.size w' w'') :
    Calls Try.prog 87 #[.slice a n cap, .func (.func F) #[] #[.pointer (some ⟨b, 0, none⟩)]] w fun e w' => ∃ r : Int, e = .returned (.int .i64 r) ∧ IdxP X p r ∧ Below w.heap.size w w' := by
  have HP : Hid (n = X.length ∧ RowAt 2 encD w a X) := ⟨hn, hp⟩
  have HFn : Hid (∀ x ∈ X, ∀ w', Below w.heap.size w w' → Calls Try.prog F #[.agg #[.int .i64 x.1, .slice x.2.1.1 x.2.2.length x.2.1.2], .pointer (some ⟨b, 0, none⟩)] w' fun e w'' => e = .returned (.bool (p x)) ∧ Below w'.heap.size w' w'') := hf
  have hnl : n ≤ 9223372036854775807 := by omega
  clear hn hp hf
  go_enter Try.func87, Try.ntmps87
  go_wp2
  go_loopw [8] (fun i w' => ∃ k : Nat, k ≤ n ∧ i = .int .i64 k ∧ Hid (∀ x ∈ X.take k, p x = false) ∧ Below w.heap.size w w') (fun i _ => n - (intOf i).toNat)
  case atStart => exact ⟨0, Nat.zero_le _, rfl, (fun x hx => by simp at hx), Below.refl _ _⟩
  case round =>
    obtain ⟨k, hk, rfl, hno, hbw⟩ := hrel
    have hsz := hbw.size
    by_cases hlt : k < n
    · have hkX : k < X.length := by have := HP.out.1; omega
      have hrow := HP.out.2.below hbw
      obtain ⟨g, o, rfl⟩ : ∃ g o, a = some ⟨g, o, none⟩ := by
        rcases HP.out.2 with h | ⟨g, o, h, _⟩
        · rw [h] at hkX; simp at hkX
        · exact ⟨g, o, h⟩
      obtain ⟨_, d0, d1⟩ := rowD_get hrow hkX
      have HI : Hid (p X[k] = true → IdxP X p k) := fun h => Or.inr ⟨k, hkX, rfl, h, fun j hj hj' => hno.out _ (List.mem_take_iff_getElem.2 ⟨j, by omega, rfl⟩)⟩
      have HJ : Hid (p X[k] = false → ∀ x ∈ X.take (k + 1), p x = false) := fun h x hx => by
        rw [take_snoc hkX] at hx
        rcases List.mem_append.1 hx with hx | hx
        · exact hno.out x hx
        · rw [List.mem_singleton.1 hx]; exact h
      have HC := HFn.out _ (List.getElem_mem hkX) wr hbw
      clear hrow hno
      generalize X[k] = x at *
      obtain ⟨dd, ⟨ax, cx⟩, l⟩ := x
      simp only at d0 d1 HI HJ HC
      generalize p (dd, (ax, cx), l) = pb at *
      generalize l.length = nl at *
      go_wp2_with fail
      rw [hF.out, Oper.upon_enter]
      refine HC.mono ?_
      rintro e w1 ⟨rfl, hb1⟩
      have hB1 : Below w.heap.size w w1 := hbw.trans (hb1.mono hsz)
      clear d0 d1 hb1 HC
      cases pb
      · have HJ2 : Hid (∀ x ∈ X.take (k + 1), p x = false) := HJ.out rfl
        clear HI HJ
        go_wp2
        go_roundw
        case rel => exact ⟨k + 1, by omega, by go_num, HJ2, hB1⟩
        case measure => simp [intOf]; omega
      · have HI2 : Hid _ := HI.out rfl
        clear HI HJ
        go_wp2
        go_ret
        exact ⟨_, rfl, HI2.out, hB1⟩
    · have HF : Hid (IdxP X p (-1)) := Or.inl ⟨rfl, fun x hx => hno.out x (by rw [List.take_of_length_le (by have := HP.out.1; omega)]; exact hx)⟩
      clear hno
      go_wp2
      go_ret
      exact ⟨_, rfl, HF.out, hbw⟩

set_option maxRecDepth 20000 in
set_option maxHeartbeats 1000000 in
theorem containsR_any (F b : Nat) (hF : Enters F) (p : XD → Bool) (a : Option Addr) (X : List XD) (cap n : Nat) (w : World) (hn : n = X.length) (hl : X.length ≤ 9223372036854775807) (hp : RowAt 2 encD w a X)
    (hf : ∀ x ∈ X, ∀ w', Below w.heap.size w w' → Calls Try.prog F #[.agg #[.int .i64 x.1, .slice x.2.1.1 x.2.2.length x.2.1.2], .pointer (some ⟨b, 0, none⟩)] w' fun e w'' => e = .returned (.bool (p x)) ∧ Below w'.heap.size w' w'') :
    Calls Try.prog 67 #[.slice a n cap, .func (.func F) #[] #[.pointer (some ⟨b, 0, none⟩)]] w fun e w' => e = .returned (.bool (X.any p)) ∧ Below w.heap.size w w' := by
  have HC := indexR_any F b hF p a X cap n w hn hl hp hf
  clear hp hf hn
  go_enter Try.func67, Try.ntmps67
  go_wp2_with fail
  refine HC.mono ?_
  rintro e w1 ⟨i, rfl, hi, hb1⟩
  have HI : Hid (decide (0 ≤ i) = X.any p) := hi.any
  clear hi HC
  go_wp2
  go_ret
  exact ⟨ret_bool HI.out, hb1⟩

set_option maxRecDepth 20000 in
set_option maxHeartbeats 1000000 in
theorem indexP_any (F b : Nat) (hF : Enters F) (p : P3 → Bool) (a : Option Addr) (l : List P3) (cap n : Nat) (w : World) (hn : n = l.length) (hl : l.length ≤ 9223372036854775807) (hp : PartsAt w a l)
    (hf : ∀ x ∈ l, ∀ w', Below w.heap.size w w' → Calls Try.prog F #[.agg #[.int .i64 x.1, .int .i64 x.2.1, .int .i64 x.2.2], .pointer (some ⟨b, 0, none⟩)] w' fun e w'' => e = .returned (.bool (p x)) ∧ Below w'.heap.size w' w'') :
    Calls Try.prog 95 #[.slice a n cap, .func (.func F) #[] #[.pointer (some ⟨b, 0, none⟩)]] w fun e w' => ∃ r : Int, e = .returned (.int .i64 r) ∧ IdxP l p r ∧ Below w.heap.size w w' := by
  have HP : Hid (n = l.length ∧ PartsAt w a l) := ⟨hn, hp⟩
  have HFn : Hid (∀ x ∈ l, ∀ w', Below w.heap.size w w' → Calls Try.prog F #[.agg #[.int .i64 x.1, .int .i64 x.2.1, .int .i64 x.2.2], .pointer (some ⟨b, 0, none⟩)] w' fun e w'' => e = .returned (.bool (p x)) ∧ Below w'.heap.size w' w'') := hf
  have hnl : n ≤ 9223372036854775807 := by omega
  clear hn hp hf
  go_enter Try.func95, Try.ntmps95
  go_wp2
  go_loopw [8] (fun i w' => ∃ k : Nat, k ≤ n ∧ i = .int .i64 k ∧ Hid (∀ x ∈ l.take k, p x = false) ∧ Below w.heap.size w w') (fun i _ => n - (intOf i).toNat)
  case atStart => exact ⟨0, Nat.zero_le _, rfl, (fun x hx => by simp at hx), Below.refl _ _⟩
  case round =>
    obtain ⟨k, hk, rfl, hno, hbw⟩ := hrel
    have hsz := hbw.size
    by_cases hlt : k < n
    · have hkX : k < l.length := by have := HP.out.1; omega
      rcases HP.out.2.below hbw with h0 | ⟨g, o, rfl, hg, hc⟩
      · rw [h0] at hkX; simp at hkX
      obtain ⟨d0, d1, d2⟩ := hc k hkX
      have HI : Hid (p l[k] = true → IdxP l p k) := fun h => Or.inr ⟨k, hkX, rfl, h, fun j hj hj' => hno.out _ (List.mem_take_iff_getElem.2 ⟨j, by omega, rfl⟩)⟩
      have HJ : Hid (p l[k] = false → ∀ x ∈ l.take (k + 1), p x = false) := fun h x hx => by
        rw [take_snoc hkX] at hx
        rcases List.mem_append.1 hx with hx | hx
        · exact hno.out x hx
        · rw [List.mem_singleton.1 hx]; exact h
      have HC := HFn.out _ (List.getElem_mem hkX) wr hbw
      clear hc hno
      generalize l[k] = x at *
      obtain ⟨xh, xk, xn⟩ := x
      simp only at d0 d1 d2 HI HJ HC
      generalize p (xh, xk, xn) = pb at *
      go_wp2_with fail
      rw [hF.out, Oper.upon_enter]
      refine HC.mono ?_
      rintro e w1 ⟨rfl, hb1⟩
      have hB1 : Below w.heap.size w w1 := hbw.trans (hb1.mono hsz)
      clear d0 d1 d2 hb1 HC
      cases pb
      · have HJ2 : Hid (∀ x ∈ l.take (k + 1), p x = false) := HJ.out rfl
        clear HI HJ
        go_wp2
        go_roundw
        case rel => exact ⟨k + 1, by omega, by go_num, HJ2, hB1⟩
        case measure => simp [intOf]; omega
      · have HI2 : Hid _ := HI.out rfl
        clear HI HJ
        go_wp2
        go_ret
        exact ⟨_, rfl, HI2.out, hB1⟩
    · have HF : Hid (IdxP l p (-1)) := Or.inl ⟨rfl, fun x hx => hno.out x (by rw [List.take_of_length_le (by have := HP.out.1; omega)]; exact hx)⟩
      clear hno
      go_wp2
      go_ret
      exact ⟨_, rfl, HF.out, hbw⟩

set_option maxRecDepth 20000 in
set_option maxHeartbeats 1000000 in
theorem containsP_any (F b : Nat) (hF : Enters F) (p : P3 → Bool) (a : Option Addr) (l : List P3) (cap n : Nat) (w : World) (hn : n = l.length) (hl : l.length ≤ 9223372036854775807) (hp : PartsAt w a l)
    (hf : ∀ x ∈ l, ∀ w', Below w.heap.size w w' → Calls Try.prog F #[.agg #[.int .i64 x.1, .int .i64 x.2.1, .int .i64 x.2.2], .pointer (some ⟨b, 0, none⟩)] w' fun e w'' => e = .returned (.bool (p x)) ∧ Below w'.heap.size w' w'') :
    Calls Try.prog 72 #[.slice a n cap, .func (.func F) #[] #[.pointer (some ⟨b, 0, none⟩)]] w fun e w' => e = .returned (.bool (l.any p)) ∧ Below w.heap.size w w' := by
  have HC := indexP_any F b hF p a l cap n w hn hl hp hf
  clear hp hf hn
  go_enter Try.func72, Try.ntmps72
  go_wp2_with fail
  refine HC.mono ?_
  rintro e w1 ⟨i, rfl, hi, hb1⟩
  have HI : Hid (decide (0 ≤ i) = l.any p) := hi.any
  clear hi HC
  go_wp2
  go_ret
  exact ⟨ret_bool HI.out, hb1⟩

end Go.Proofs.Ytikmnaegalmfeaa
