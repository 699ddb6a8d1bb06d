/- Several texts in one: What the document's RightLog does; Plain functions of locks: who is at what, with no word of the program. -/
import Derived.Test.YtikmnaegalmfeaaKLog1
import Derived.Test.YtikmnaegalmfeaaKRef1
import Derived.Test.YtikmnaegalmfeaaKJ11
namespace Go.Proofs.Ytikmnaegalmfeaa
open Go.RowKit
attribute [local go_sem ↓] Go.wp_at_zero Go.wp_at_succ

def rightR (r : R3) : Bool := !decide (r.2.1 < 0) && (decide (r.2.2.length = 0) || decide (wrong r.2.2 3 = 0)) && !(decide (r.1 = 1) && decide (r.2.2.length = 0))
def rightLog (L : List R3) : Bool := L.all rightR && decide (L.length ≤ 60)
theorem rightR_true {r : R3} (h1 : ¬ r.2.1 < 0) (h2 : r.2.2.length = 0 ∨ wrong r.2.2 3 = 0) (h3 : ¬ (r.1 = 1 ∧ r.2.2.length = 0)) : rightR r = true := by
  unfold rightR
  rw [decide_eq_false h1]
  have e : (decide (r.2.2.length = 0) || decide (wrong r.2.2 3 = 0)) = true := by
    rcases h2 with h | h
    · rw [decide_eq_true h]; rfl
    · rw [decide_eq_true h, Bool.or_true]
  rw [e]
  cases hk : decide (r.1 = 1)
  · rfl
  · rw [decide_eq_false (fun h => h3 ⟨of_decide_eq_true hk, h⟩)]; rfl
theorem rightR_false {r : R3} (h : r.2.1 < 0 ∨ (¬ r.2.2.length = 0 ∧ ¬ wrong r.2.2 3 = 0) ∨ (r.1 = 1 ∧ r.2.2.length = 0)) : rightR r = false := by
  unfold rightR
  rcases h with h | ⟨h, h'⟩ | ⟨h, h'⟩
  · rw [decide_eq_true h]; rfl
  · rw [decide_eq_false h, decide_eq_false h']; simp
  · rw [decide_eq_true h, decide_eq_true h']; simp
theorem rightR_ok {r : R3} (h : rightR r = true) : OkP r.2.2 := by
  simp only [rightR, Bool.and_eq_true, Bool.or_eq_true, decide_eq_true_eq] at h
  rcases h.1.2 with h | h
  · rw [List.eq_nil_of_length_eq_zero h]; exact okP_nil
  · exact okP_wrong h
theorem rightLog_ok {L : List R3} (h : rightLog L = true) : OkL L ∧ L.length ≤ 60 := by
  simp only [rightLog, Bool.and_eq_true, decide_eq_true_eq, List.all_eq_true] at h
  exact ⟨fun r hr => rightR_ok (h.1 r hr), h.2⟩

set_option maxRecDepth 20000 in
set_option maxHeartbeats 2000000 in
theorem rightLog_any (a : Option Addr) (X : List XL) (cap n : Nat) (w : World) (hn : n = X.length) (hl : X.length ≤ 9223372036854775807) (hm : ∀ x ∈ X, x.2.2.2.length ≤ 9223372036854775807) (hp : RecsAt w a X) :
    Calls Try.prog 27 #[.slice a n cap] w fun e w' => e = .returned (.bool (rightLog (X.map stripL))) ∧ Below w.heap.size w w' := by
  have HN : Hid (n = X.length ∧ (∀ x ∈ X, x.2.2.2.length ≤ 9223372036854775807) ∧ RecsAt w a X) := ⟨hn, hm, hp⟩
  have hnl : n ≤ 9223372036854775807 := by omega
  clear hn hm hp
  go_enter Try.func27, Try.ntmps27
  go_wp2
  go_loopw [7] (fun i w' => ∃ k : Nat, k ≤ n ∧ i = .int .i64 k ∧ Hid (((X.take k).map stripL).all rightR = true) ∧ Below w.heap.size w w') (fun i _ => n - (intOf i).toNat)
  case atStart => exact ⟨0, Nat.zero_le _, rfl, rfl, Below.refl _ _⟩
  case round =>
    obtain ⟨k, hk, rfl, hA, hbw⟩ := hrel
    have hsz := hbw.size
    by_cases hlt : k < n
    · have hkX : k < X.length := by have := HN.out.1; omega
      obtain ⟨b, o, rfl, hb, c0, c1, c2, hq⟩ := (HN.out.2.2.below hbw).get hkX
      have hmk := HN.out.2.1 _ (List.getElem_mem hkX)
      have HY : Hid (¬ X[k].2.1 < 0 → (X[k].2.2.2.length = 0 ∨ wrong X[k].2.2.2 3 = 0) → ¬ (X[k].1 = 1 ∧ X[k].2.2.2.length = 0) → ((X.take (k + 1)).map stripL).all rightR = true) := fun h1 h2 h3 => by
        have h := rightR_true (r := stripL X[k]) h1 h2 h3
        rw [take_snoc hkX, List.map_append, List.all_append, hA.out]
        simpa using h
      have HZ : Hid (X[k].2.1 < 0 ∨ (¬ X[k].2.2.2.length = 0 ∧ ¬ wrong X[k].2.2.2 3 = 0) ∨ (X[k].1 = 1 ∧ X[k].2.2.2.length = 0) → rightLog (X.map stripL) = false) := fun h0 => by
        have h := rightR_false (r := stripL X[k]) h0
        have : (X.map stripL).all rightR = false := by
          rw [List.all_eq_false]
          exact ⟨_, List.mem_map.2 ⟨_, List.getElem_mem hkX, rfl⟩, by rw [h]; simp⟩
        unfold rightLog
        rw [this]
        rfl
      clear hA
      generalize X[k] = x at *
      obtain ⟨kd, dd, ⟨ax, cx⟩, l⟩ := x
      simp only at c0 c1 c2 hq hmk HY HZ
      have HQ : Hid (PartsAt wr ax l ∧ l.length ≤ 9223372036854775807) := ⟨hq, hmk⟩
      have hA := below1 wr (.cells #[.int .i64 kd, .int .i64 dd, .slice ax l.length cx] 67)
      have HB : Hid (Below w.heap.size w (wr.alloc (.cells #[.int .i64 kd, .int .i64 dd, .slice ax l.length cx] 67))) := hbw.trans (hA.mono hsz)
      have HC := fun (W : World) (hW : PartsAt W ax l) => wrongParts_any ax l cx l.length 3 W rfl hmk hW (by omega)
      clear hq hmk hA
      generalize hw3 : wrong l 3 = z at *
      have HW3 : Hid (wrong l 3 = z) := hw3
      clear hw3
      generalize hll : l.length = nl at *
      have HLL : Hid (l.length = nl) := hll
      clear hll
      by_cases g1 : dd < 0
      · have HF : Hid (rightLog (X.map stripL) = false) := HZ.out (Or.inl g1)
        clear HY HZ HC
        go_wp2
        go_ret
        exact ⟨ret_bool HF.out.symm, HB.out⟩
      · by_cases g2 : nl = 0
        · subst g2
          by_cases g3 : kd = 1
          · subst g3
            have HF : Hid (rightLog (X.map stripL) = false) := HZ.out (Or.inr (Or.inr ⟨rfl, rfl⟩))
            clear HY HZ HC
            go_wp2
            go_ret
            exact ⟨ret_bool HF.out.symm, HB.out⟩
          · have g3' : (kd == 1) = false := by simpa using g3
            have HF : Hid (((X.take (k + 1)).map stripL).all rightR = true) := HY.out g1 (Or.inl rfl) (fun h => g3 h.1)
            clear HY HZ HC g3
            go_wp2
            go_roundw
            case rel => exact ⟨k + 1, by omega, by go_num, HF, HB.out⟩
            case measure => simp [intOf]; omega
        · have g2' : (0 : Int) < (nl : Int) := by omega
          have g2'' : ((nl : Int) == 0) = false := by rw [beq_eq_false_iff_ne]; omega
          by_cases g4 : z = 0
          · subst g4
            have HF : Hid (((X.take (k + 1)).map stripL).all rightR = true) := HY.out g1 (Or.inr rfl) (fun h => g2 h.2)
            clear HY HZ
            go_wp2_with fail
            refine (HC _ (HQ.out.1.below (below1 wr _))).mono ?_
            rintro e w2 ⟨rfl, hb2⟩
            have hB2 : Below w.heap.size w w2 := HB.out.trans (hb2.mono (by simp; omega))
            have hr2 : Blk w2 wr.heap.size #[.int .i64 kd, .int .i64 dd, .slice ax nl cx] 67 := (Blk.new wr _ _).below hb2 (by simp)
            have y0 := hr2.cell 0
            have y2 := hr2.cell 2
            simp at y0 y2
            clear hr2 hb2 HC
            go_wp2
            all_goals
              go_roundw
              case rel => exact ⟨k + 1, by omega, by go_num, HF, hB2⟩
              case measure => simp [intOf]; omega
          · have g4' : (z != 0) = true := by simpa using g4
            have HF : Hid (rightLog (X.map stripL) = false) := HZ.out (Or.inr (Or.inl ⟨g2, g4⟩))
            clear HY HZ
            go_wp2_with fail
            refine (HC _ (HQ.out.1.below (below1 wr _))).mono ?_
            rintro e w2 ⟨rfl, hb2⟩
            have hB2 : Below w.heap.size w w2 := HB.out.trans (hb2.mono (by simp; omega))
            clear hb2 HC
            go_wp2
            go_ret
            exact ⟨ret_bool HF.out.symm, hB2⟩
    · have HF : Hid (rightLog (X.map stripL) = decide ((n : Int) ≤ 60)) := by
        show _ = _
        have e := hA.out
        rw [List.take_of_length_le (by have := HN.out.1; omega)] at e
        unfold rightLog
        rw [e, List.length_map, ← HN.out.1, Bool.true_and]
        congr 1
        first | done | (apply propext; omega)
      clear hA
      go_wp2
      all_goals
        go_ret
        exact ⟨ret_bool (by rw [HF.out] <;> simp_all), hbw⟩

end Go.Proofs.Ytikmnaegalmfeaa

namespace Go.Proofs.Ytikmnaegalmfeaa
open Go.RowKit

/-- Has one of the parts that key? -/
def hasK (l : List P3) (k : Int) : Bool := l.any fun p => decide (p.2.1 = k)
/-- Is somebody at that key? -/
def atK (D : List D2) (k : Int) : Bool := D.any fun x => hasK x.2 k
/-- The first deed at that key, or -1. -/
def whoB : List D2 → Int → Int
  | [], _ => -1
  | x :: t, k => if hasK x.2 k = true then x.1 else whoB t k
def freeB (D : List D2) (l : List P3) : Bool := l.all fun p => !atK D p.2.1

theorem hasK_snoc (l : List P3) (p : P3) (k : Int) : hasK (l ++ [p]) k = (hasK l k || decide (p.2.1 = k)) := by simp [hasK]
theorem whoB_none {D : List D2} {k : Int} (h : atK D k = false) : whoB D k = -1 := by
  induction D with
  | nil => rfl
  | cons x t ih =>
    simp only [atK, List.any_cons, Bool.or_eq_false_iff] at h
    unfold whoB
    rw [h.1, if_neg (by simp)]
    exact ih h.2
theorem whoB_mem {D : List D2} {k : Int} (h : atK D k = true) : ∃ x ∈ D, x.1 = whoB D k ∧ hasK x.2 k = true := by
  induction D with
  | nil => simp [atK] at h
  | cons x t ih =>
    unfold whoB
    by_cases hx : hasK x.2 k = true
    · rw [if_pos hx]; exact ⟨x, by simp, rfl, hx⟩
    · rw [if_neg hx]
      simp only [atK, List.any_cons, Bool.or_eq_true] at h
      rcases h with h | h
      · exact absurd h hx
      · obtain ⟨y, hy, e, hk⟩ := ih h
        exact ⟨y, by simp [hy], e, hk⟩
/-- The first that has the key, by its place. -/
theorem whoB_first {D : List D2} {k : Int} {i : Nat} (h : i < D.length) (hk : hasK D[i].2 k = true) (hlow : ∀ j (hj : j < D.length), j < i → hasK D[j].2 k = false) : whoB D k = D[i].1 := by
  induction D generalizing i with
  | nil => simp at h
  | cons x t ih =>
    unfold whoB
    cases i with
    | zero => rw [if_pos (by simpa using hk)]; rfl
    | succ i =>
      have h0 := hlow 0 (by simp) (by omega)
      simp only [List.getElem_cons_zero] at h0
      rw [h0, if_neg (by simp)]
      exact ih (by simpa using h) (by simpa using hk) (fun j hj hji => by
        have := hlow (j + 1) (by simp; omega) (by omega)
        simpa using this)
theorem whoB_neg {D : List D2} (hD : ∀ x ∈ D, 0 ≤ x.1) (k : Int) : decide (whoB D k < 0) = !atK D k := by
  cases h : atK D k
  · rw [whoB_none h]; rfl
  · obtain ⟨x, hx, e, _⟩ := whoB_mem h
    have := hD x hx
    rw [decide_eq_false (by omega)]; rfl
end Go.Proofs.Ytikmnaegalmfeaa
