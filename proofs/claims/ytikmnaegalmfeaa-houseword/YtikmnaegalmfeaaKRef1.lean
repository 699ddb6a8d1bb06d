/- What the document's own answer to chapter 1 does: WrongParts, Of, Houses, SameParts, Fits and Do, called at parts and sums that lie in memory. -/
import Derived.Test.YtikmnaegalmfeaaKMap2
import Derived.Test.YtikmnaegalmfeaaKJ01
import Derived.WalkSmall
namespace Go.Proofs.Ytikmnaegalmfeaa
open Go.RowKit

def keyP (p : P3) : P2 := (p.1, p.2.1)
theorem any_keyP (l : List P3) (q : P3) : ((l.map keyP).any fun p => decide (p = keyP q)) = hasB q l := by
  induction l with
  | nil => rfl
  | cons p t ih =>
    simp only [List.map_cons, List.any_cons, hasB] at *
    rw [ih]
    congr 1
    simp [keyP, sameB]
theorem wf64 {n : Int} (h1 : -9223372036854775808 ≤ n) (h2 : n ≤ 9223372036854775807) : (Lit.int .i64 n).wf = true := WalkArith.wf_i64 (by omega)

set_option maxRecDepth 20000 in
set_option maxHeartbeats 1000000 in
theorem wrongParts_any (a : Option Addr) (l : List P3) (cap n : Nat) (H : Int) (w : World) (hn : n = l.length) (hm : l.length ≤ 9223372036854775807) (hp : PartsAt w a l) (hH : H ≤ 9223372036854775807) :
    Calls Try.prog 22 #[.slice a n cap, .int .i64 H] w fun e w' => e = .returned (.int .i64 (wrong l H)) ∧ Below w.heap.size w w' := by
  subst hn
  by_cases h0 : l.length = 0
  · have HW : Hid (wrong l H = 5) := by show _ = _; simp only [wrong]; rw [if_pos (Or.inl (by omega))]
    have h0' : ((l.length : Int) == 0) = true := by simp [h0]
    clear hp
    have h0'' : (l.length : Int) = 0 := by omega
    have X : Hid (l.length = 0 ∧ (l.length : Int) = 0) := ⟨h0, h0''⟩
    clear h0 h0''
    go_enter Try.func22, Try.ntmps22
    go_wp2
    go_ret
    exact ⟨ret_int HW.out.symm, Below.refl _ _⟩
  have h0' : ((l.length : Int) == 0) = false := by simp; intro h; exact h0 (by simp [h])
  by_cases h4 : 4 < l.length
  · have HW : Hid (wrong l H = 5) := by show _ = _; simp only [wrong]; rw [if_pos (Or.inr h4)]
    have h4' : 4 < (l.length : Int) := by omega
    clear hp
    go_enter Try.func22, Try.ntmps22
    go_wp2
    go_ret
    exact ⟨ret_int HW.out.symm, Below.refl _ _⟩
  have HW : Hid (wrong l H = wrongFrom H [] l) := by show _ = _; simp only [wrong]; rw [if_neg (by omega)]
  have h4' : ¬ 4 < (l.length : Int) := by omega
  have hmm := @run_makeMap Try.prog
  go_enter Try.func22, Try.ntmps22
  go_wp2
  go_loopw [19] (fun i w' => ∃ k : Nat, k ≤ l.length ∧ i = .int .i64 k ∧ Hid (wrongFrom H [] l = wrongFrom H (l.take k) (l.drop k)) ∧ SetAt w' w.heap.size ((l.take k).map keyP) ∧ w.heap.size + 1 ≤ w'.heap.size ∧ Below w.heap.size w w') (fun i _ => l.length - (intOf i).toNat)
  case atStart => exact ⟨0, Nat.zero_le _, rfl, rfl, setAt_made w, by simp, below1 _ _⟩
  case round =>
    obtain ⟨k, hk, rfl, hn, hset, hsz, hbw⟩ := hrel
    clear hmm
    by_cases hlt : k < l.length
    · rcases hp with rfl | ⟨b', o, rfl, hb', hc⟩
      · simp at hlt
      obtain ⟨d0, d1, d2⟩ := hc k hlt
      have HS := hn.out
      rw [wrong_step hlt] at HS
      have hlk : ((l.take k).map keyP).length ≤ 1000 := by simp; omega
      have hany := any_keyP (l.take k) l[k]
      have hsn : (l.take (k + 1)).map keyP = (l.take k).map keyP ++ [keyP l[k]] := by rw [take_snoc hlt, List.map_append]; rfl
      clear hc hn
      obtain ⟨hcc, hff⟩ := bcell hbw
      by_cases hin : inB l[k] H = true
      · have hi := hin
        simp only [inB, decide_eq_true_eq] at hi
        obtain ⟨i0, i1, i2, i3, i4, i5⟩ := hi
        have h64 : In64 (keyP l[k]) := ⟨wf64 (by simp only [keyP]; omega) (by simp only [keyP]; omega), wf64 (by simp only [keyP]; omega) (by simp only [keyP]; omega)⟩
        have hlook := (hset.alloc (.cells #[.int .i64 l[k].1, .int .i64 l[k].2.1, .int .i64 l[k].2.2] 45)).lookup (keyP l[k]) h64
        rw [hany] at hlook
        simp only [pairV, keyP] at hlook
        rw [if_pos hin] at HS
        cases hh : hasB l[k] (l.take k)
        · rw [hh] at hlook HS
          have HN : Hid (wrongFrom H [] l = wrongFrom H (l.take (k + 1)) (l.drop (k + 1))) := by show _ = _; simpa using HS
          have HSET : Hid (SetAt wr w.heap.size ((l.take k).map keyP) ∧ In64 (keyP l[k]) ∧ (l.take (k + 1)).map keyP = (l.take k).map keyP ++ [keyP l[k]] ∧ ((l.take k).map keyP).length ≤ 1000) := ⟨hset, h64, hsn, hlk⟩
          clear HS hset h64 hsn hlk hany hin hh
          go_wp2_with (at_mapUpdate; refine wpList_setPut _ rfl _ _ _ rfl w.heap.size ((l.take k).map keyP) (keyP l[k]) rfl (HSET.out.1.alloc _) HSET.out.2.2.2 rfl rfl HSET.out.2.1 ?_; intro w1 hset1 hgrow1)
          have hB1 : Below w.heap.size w w1 := (hbw.alloc (by omega) _).grown hgrow1 (by simp; omega) (fun j hj => by cases hj; exact Nat.le_refl _)
          have hs1 : w.heap.size + 1 ≤ w1.heap.size := by have := hgrow1.size; simp at this; omega
          have HS1 : Hid (SetAt w1 w.heap.size ((l.take k).map keyP ++ [keyP l[k]])) := hset1
          clear hset1 hgrow1 hlook d0 d1 d2 hcc hff
          go_wp2
          go_roundw
          case rel => exact ⟨k + 1, by omega, by go_num, HN, by rw [HSET.out.2.2.1]; exact HS1.out, hs1, hB1⟩
          case measure => simp [intOf]; omega
        · rw [hh] at hlook HS
          have HN : Hid (wrongFrom H [] l = 4) := by show _ = _; simpa using HS
          clear HS hset h64 hsn hlk hany hin hh
          go_wp2
          go_ret
          exact ⟨ret_int (by rw [HW.out, HN.out]), hbw.alloc (by omega) _⟩
      · rw [if_neg hin] at HS
        have HN : Hid (wrongFrom H [] l = 3) := HS
        simp only [inB, decide_eq_true_eq] at hin
        have hd : l[k].1 < 0 ∨ H ≤ l[k].1 ∨ l[k].2.1 < 0 ∨ 3 < l[k].2.1 ∨ 1048576 < l[k].2.2 ∨ l[k].2.2 < -1048576 := by omega
        clear hin HS hset hlk hany hsn
        have HD : Hid _ := hd
        clear hd
        go_wp2
        all_goals first
          | (go_ret; exact ⟨ret_int (by rw [HW.out, HN.out]), hbw.alloc (by omega) _⟩)
          | (exfalso; have := HD.out; omega)
    · clear hp hset
      have HE : Hid (wrongFrom H [] l = 0) := by
        have e1 := hn.out
        rw [List.drop_eq_nil_of_le (by omega)] at e1
        exact e1
      clear hn
      go_wp2
      go_ret
      exact ⟨ret_int (by rw [HW.out, HE.out]), hbw⟩

end Go.Proofs.Ytikmnaegalmfeaa
