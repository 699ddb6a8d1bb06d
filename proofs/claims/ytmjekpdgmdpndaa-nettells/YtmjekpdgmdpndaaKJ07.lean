/- Several texts in one: What the document's own answer to chapter 1 does: WrongParts, Of, Houses, SameParts, Fits and Do, called at parts and sums that lie in memory; What the document's RightLog does; Plain functions of locks: who is at what, with no word of the program; What slices.IndexFunc and slices.ContainsFunc do, with whatever function that tells something of each entry and leaves older memory as it was: deeds, and parts; Houses that right logs make: their deeds, as locks read them. -/
import Derived.Test.YtmjekpdgmdpndaaKJ06
import Derived.Test.YtmjekpdgmdpndaaKJ00
import Derived.Test.YtmjekpdgmdpndaaKJ04
import Derived.WalkSmall
import Derived.Deep.RegionHeld3
import Derived.Deep.RegionWith
import Derived.Laws.EntriesVeiled
namespace Go.Proofs.Ytmjekpdgmdpndaa
open Go.RowKit

def keyP (p : P3) : P2 := (p.1, p.2.1)
theorem any_keyP (l : List P3) (q : P3) : ((l.map keyP).any fun p => decide (p = keyP q)) = hasB q l := by
  induction l with
  | nil => rfl
  | cons p t ih =>
    simp only [List.map_cons, List.any_cons, hasB] at *
    rw [ih]
    congr 1
    simp [keyP, sameB]
theorem wf64 {n : Int} (h1 : -9223372036854775808 ≤ n) (h2 : n ≤ 9223372036854775807) : (Lit.int .i64 n).wf = true := WalkArith.wf_i64 (by omega)

set_option maxRecDepth 20000 in
set_option maxHeartbeats 1000000 in
theorem wrongParts_any (a : Option Addr) (l : List P3) (cap n : Nat) (H : Int) (w : World) (hn : n = l.length) (hm : l.length ≤ 9223372036854775807) (hp : PartsAt w a l) (hH : H ≤ 9223372036854775807) :
    Calls Try.prog 9 #[.slice a n cap, .int .i64 H] w fun e w' => e = .returned (.int .i64 (wrong l H)) ∧ Below w.heap.size w w' := by
  subst hn
  by_cases h0 : l.length = 0
  · have HW : Hid (wrong l H = 5) := by show _ = _; simp only [wrong]; rw [if_pos (Or.inl (by omega))]
    have h0' : ((l.length : Int) == 0) = true := by simp [h0]
    clear hp
    have h0'' : (l.length : Int) = 0 := by omega
    have X : Hid (l.length = 0 ∧ (l.length : Int) = 0) := ⟨h0, h0''⟩
    clear h0 h0''
    go_enter Try.func9, Try.ntmps9
    go_wp2
    go_ret
    exact ⟨ret_int HW.out.symm, Below.refl _ _⟩
  have h0' : ((l.length : Int) == 0) = false := by simp; intro h; exact h0 (by simp [h])
  by_cases h4 : 4 < l.length
  · have HW : Hid (wrong l H = 5) := by show _ = _; simp only [wrong]; rw [if_pos (Or.inr h4)]
    have h4' : 4 < (l.length : Int) := by omega
    clear hp
    go_enter Try.func9, Try.ntmps9
    go_wp2
    go_ret
    exact ⟨ret_int HW.out.symm, Below.refl _ _⟩
  have HW : Hid (wrong l H = wrongFrom H [] l) := by show _ = _; simp only [wrong]; rw [if_neg (by omega)]
  have h4' : ¬ 4 < (l.length : Int) := by omega
  have hmm := @run_makeMap Try.prog
  go_enter Try.func9, Try.ntmps9
  go_wp2
  go_loopw [19] (fun i w' => ∃ k : Nat, k ≤ l.length ∧ i = .int .i64 k ∧ Hid (wrongFrom H [] l = wrongFrom H (l.take k) (l.drop k)) ∧ SetAt w' w.heap.size ((l.take k).map keyP) ∧ w.heap.size + 1 ≤ w'.heap.size ∧ Below w.heap.size w w') (fun i _ => l.length - (intOf i).toNat)
  case atStart => exact ⟨0, Nat.zero_le _, rfl, rfl, setAt_made w, by simp, below1 _ _⟩
  case round =>
    obtain ⟨k, hk, rfl, hn, hset, hsz, hbw⟩ := hrel
    clear hmm
    by_cases hlt : k < l.length
    · rcases hp with rfl | ⟨b', o, rfl, hb', hc⟩
      · simp at hlt
      obtain ⟨d0, d1, d2⟩ := hc k hlt
      have HS := hn.out
      rw [wrong_step hlt] at HS
      have hlk : ((l.take k).map keyP).length ≤ 1000 := by simp; omega
      have hany := any_keyP (l.take k) l[k]
      have hsn : (l.take (k + 1)).map keyP = (l.take k).map keyP ++ [keyP l[k]] := by rw [take_snoc hlt, List.map_append]; rfl
      clear hc hn
      obtain ⟨hcc, hff⟩ := bcell hbw
      by_cases hin : inB l[k] H = true
      · have hi := hin
        simp only [inB, decide_eq_true_eq] at hi
        obtain ⟨i0, i1, i2, i3, i4, i5⟩ := hi
        have h64 : In64 (keyP l[k]) := ⟨wf64 (by simp only [keyP]; omega) (by simp only [keyP]; omega), wf64 (by simp only [keyP]; omega) (by simp only [keyP]; omega)⟩
        have hlook := (hset.alloc (.cells #[.int .i64 l[k].1, .int .i64 l[k].2.1, .int .i64 l[k].2.2] 65)).lookup (keyP l[k]) h64
        rw [hany] at hlook
        simp only [pairV, keyP] at hlook
        rw [if_pos hin] at HS
        cases hh : hasB l[k] (l.take k)
        · rw [hh] at hlook HS
          have HN : Hid (wrongFrom H [] l = wrongFrom H (l.take (k + 1)) (l.drop (k + 1))) := by show _ = _; simpa using HS
          have HSET : Hid (SetAt wr w.heap.size ((l.take k).map keyP) ∧ In64 (keyP l[k]) ∧ (l.take (k + 1)).map keyP = (l.take k).map keyP ++ [keyP l[k]] ∧ ((l.take k).map keyP).length ≤ 1000) := ⟨hset, h64, hsn, hlk⟩
          clear HS hset h64 hsn hlk hany hin hh
          go_wp2_with (at_mapUpdate; refine wpList_setPut _ rfl _ _ _ rfl w.heap.size ((l.take k).map keyP) (keyP l[k]) rfl (HSET.out.1.alloc _) HSET.out.2.2.2 rfl rfl HSET.out.2.1 ?_; intro w1 hset1 hgrow1)
          have hB1 : Below w.heap.size w w1 := (hbw.alloc (by omega) _).grown hgrow1 (by simp; omega) (fun j hj => by cases hj; exact Nat.le_refl _)
          have hs1 : w.heap.size + 1 ≤ w1.heap.size := by have := hgrow1.size; simp at this; omega
          have HS1 : Hid (SetAt w1 w.heap.size ((l.take k).map keyP ++ [keyP l[k]])) := hset1
          clear hset1 hgrow1 hlook d0 d1 d2 hcc hff
          go_wp2
          go_roundw
          case rel => exact ⟨k + 1, by omega, by go_num, HN, by rw [HSET.out.2.2.1]; exact HS1.out, hs1, hB1⟩
          case measure => simp [intOf]; omega
        · rw [hh] at hlook HS
          have HN : Hid (wrongFrom H [] l = 4) := by show _ = _; simpa using HS
          clear HS hset h64 hsn hlk hany hin hh
          go_wp2
          go_ret
          exact ⟨ret_int (by rw [HW.out, HN.out]), hbw.alloc (by omega) _⟩
      · rw [if_neg hin] at HS
        have HN : Hid (wrongFrom H [] l = 3) := HS
        simp only [inB, decide_eq_true_eq] at hin
        have hd : l[k].1 < 0 ∨ H ≤ l[k].1 ∨ l[k].2.1 < 0 ∨ 3 < l[k].2.1 ∨ 1048576 < l[k].2.2 ∨ l[k].2.2 < -1048576 := by omega
        clear hin HS hset hlk hany hsn
        have HD : Hid _ := hd
        clear hd
        go_wp2
        all_goals first
          | (go_ret; exact ⟨ret_int (by rw [HW.out, HN.out]), hbw.alloc (by omega) _⟩)
          | (exfalso; have := HD.out; omega)
    · clear hp hset
      have HE : Hid (wrongFrom H [] l = 0) := by
        have e1 := hn.out
        rw [List.drop_eq_nil_of_le (by omega)] at e1
        exact e1
      clear hn
      go_wp2
      go_ret
      exact ⟨ret_int (by rw [HW.out, HE.out]), hbw⟩

end Go.Proofs.Ytmjekpdgmdpndaa

namespace Go.Proofs.Ytmjekpdgmdpndaa
open Go.RowKit
attribute [local go_sem ↓] Go.wp_at_zero Go.wp_at_succ

def rightR (r : R3) : Bool := !decide (r.2.1 < 0) && (decide (r.2.2.length = 0) || decide (wrong r.2.2 3 = 0)) && !(decide (r.1 = 1) && decide (r.2.2.length = 0))
def rightLog (L : List R3) : Bool := L.all rightR && decide (L.length ≤ 60)
theorem rightR_ok {r : R3} (h : rightR r = true) : OkP r.2.2 := by
  simp only [rightR, Bool.and_eq_true, Bool.or_eq_true, decide_eq_true_eq] at h
  rcases h.1.2 with h | h
  · rw [List.eq_nil_of_length_eq_zero h]; exact okP_nil
  · exact okP_wrong h
theorem rightLog_ok {L : List R3} (h : rightLog L = true) : OkL L ∧ L.length ≤ 60 := by
  simp only [rightLog, Bool.and_eq_true, decide_eq_true_eq, List.all_eq_true] at h
  exact ⟨fun r hr => rightR_ok (h.1 r hr), h.2⟩

end Go.Proofs.Ytmjekpdgmdpndaa

namespace Go.Proofs.Ytmjekpdgmdpndaa
open Go.RowKit

/-- Has one of the parts that key? -/
def hasK (l : List P3) (k : Int) : Bool := l.any fun p => decide (p.2.1 = k)
/-- Is somebody at that key? -/
def atK (D : List D2) (k : Int) : Bool := D.any fun x => hasK x.2 k
/-- The first deed at that key, or -1. -/
def whoB : List D2 → Int → Int
  | [], _ => -1
  | x :: t, k => if hasK x.2 k = true then x.1 else whoB t k
theorem whoB_none {D : List D2} {k : Int} (h : atK D k = false) : whoB D k = -1 := by
  induction D with
  | nil => rfl
  | cons x t ih =>
    simp only [atK, List.any_cons, Bool.or_eq_false_iff] at h
    unfold whoB
    rw [h.1, if_neg (by simp)]
    exact ih h.2
theorem whoB_mem {D : List D2} {k : Int} (h : atK D k = true) : ∃ x ∈ D, x.1 = whoB D k ∧ hasK x.2 k = true := by
  induction D with
  | nil => simp [atK] at h
  | cons x t ih =>
    unfold whoB
    by_cases hx : hasK x.2 k = true
    · rw [if_pos hx]; exact ⟨x, by simp, rfl, hx⟩
    · rw [if_neg hx]
      simp only [atK, List.any_cons, Bool.or_eq_true] at h
      rcases h with h | h
      · exact absurd h hx
      · obtain ⟨y, hy, e, hk⟩ := ih h
        exact ⟨y, by simp [hy], e, hk⟩
theorem whoB_neg {D : List D2} (hD : ∀ x ∈ D, 0 ≤ x.1) (k : Int) : decide (whoB D k < 0) = !atK D k := by
  cases h : atK D k
  · rw [whoB_none h]; rfl
  · obtain ⟨x, hx, e, _⟩ := whoB_mem h
    have := hD x hx
    rw [decide_eq_false (by omega)]; rfl
end Go.Proofs.Ytmjekpdgmdpndaa

namespace Go.Proofs.Ytmjekpdgmdpndaa
open Go.RowKit
attribute [local go_sem ↓] Go.wp_at_zero Go.wp_at_succ

/-- The first entry of which p holds, or -1. -/
def IdxP {α : Type} (X : List α) (p : α → Bool) (r : Int) : Prop := (r = -1 ∧ ∀ x ∈ X, p x = false) ∨ ∃ (i : Nat) (h : i < X.length), r = i ∧ p X[i] = true ∧ ∀ j (hj : j < X.length), j < i → p X[j] = false
theorem IdxP.any {α : Type} {X : List α} {p : α → Bool} {r : Int} (h : IdxP X p r) : decide (0 ≤ r) = X.any p := by
  rcases h with ⟨rfl, h⟩ | ⟨i, hi, rfl, hp, _⟩
  · have : X.any p = false := by rw [List.any_eq_false]; intro x hx; rw [h x hx]; simp
    rw [this]; rfl
  · have : X.any p = true := by rw [List.any_eq_true]; exact ⟨_, List.getElem_mem hi, hp⟩
    rw [this]
    exact decide_eq_true (by omega)

end Go.Proofs.Ytmjekpdgmdpndaa

namespace Go.Proofs.Ytmjekpdgmdpndaa
open Go.RowKit

/-- What a house is ready for, as it lies. -/
structure RdyAt (w : World) (ra : Option Addr) (nr : Nat) (XR : List XD) (D : List D2) : Prop where
  n : nr = XR.length
  few : XR.length ≤ 9223372036854775807
  small : ∀ x ∈ XR, x.2.2.length ≤ 9223372036854775807
  lies : DeedsAt w ra XR
  says : XR.map stripD = D
theorem RdyAt.below {w w' : World} {ra : Option Addr} {nr : Nat} {XR : List XD} {D : List D2} (h : RdyAt w ra nr XR D) (hb : Below w.heap.size w w') : RdyAt w' ra nr XR D := ⟨h.n, h.few, h.small, h.lies.below hb, h.says⟩
/-- A house's value, opened. -/
theorem HouseAt.open {w : World} {v : Value} {L : List R3} {h : H3} {k : Nat} (hh : HouseAt w v L h) (hi : HInv k h) (hk : k ≤ 9223372036854775807) : ∃ (la : Option Addr) (nl lc : Nat) (ra : Option Addr) (nr rc : Nat) (XR : List XD) (da : Option Addr) (nd dc : Nat),
    v = .agg #[.slice la nl lc, .int .i64 h.1.1, .int .i64 h.1.2.1, .int .i64 h.1.2.2.1, .int .i64 h.1.2.2.2, .slice ra nr rc, .slice da nd dc] ∧ RdyAt w ra nr XR h.2.1 := by
  obtain ⟨la, nl, lc, Y, ra, nr, rc, XR, da, nd, dc, hv, _, ⟨h4, h5, h6⟩, _⟩ := hh
  refine ⟨la, nl, lc, ra, nr, rc, XR, da, nd, dc, hv, h4, ?_, ?_, h6, h5⟩
  · have h1 := hi.few
    rw [← h5, List.length_map] at h1
    omega
  · intro x hx
    have h1 := (hi.ok (stripD x) (by rw [← h5]; exact List.mem_map.2 ⟨x, hx, rfl⟩)).1
    have h2 : x.2.2.length ≤ 4 := h1
    omega
end Go.Proofs.Ytmjekpdgmdpndaa
