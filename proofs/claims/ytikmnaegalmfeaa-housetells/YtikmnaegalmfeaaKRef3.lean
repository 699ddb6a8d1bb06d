/- What the document's Fits and Do do, called at right parts and sums within bounds. -/
import Derived.Test.YtikmnaegalmfeaaKPart4
import Derived.Test.YtikmnaegalmfeaaKJ03
import Derived.WalkSmall
namespace Go.Proofs.Ytikmnaegalmfeaa
open Go.RowKit
theorem doB_lt_eq (s : S4) (l : List P3) (k : Int) : doB (doB s (l.filter fun p => decide (p.2.1 < k))) (l.filter fun p => decide (p.2.1 = k)) = doB s (l.filter fun p => decide (p.2.1 < k + 1)) := by
  induction l with
  | nil => rfl
  | cons p t ih =>
    by_cases h1 : p.2.1 < k
    · have h2 : ¬ p.2.1 = k := by omega
      have h3 : p.2.1 < k + 1 := by omega
      rw [List.filter_cons_of_pos (p := fun p : P3 => decide (p.2.1 < k)) (by simpa using h1), List.filter_cons_of_neg (p := fun p : P3 => decide (p.2.1 = k)) (by simpa using h2), List.filter_cons_of_pos (p := fun p : P3 => decide (p.2.1 < k + 1)) (by simpa using h3), doB_cons, doB_do1, doB_cons, ih]
    · by_cases h2 : p.2.1 = k
      · have h3 : p.2.1 < k + 1 := by omega
        rw [List.filter_cons_of_neg (p := fun p : P3 => decide (p.2.1 < k)) (by simpa using h1), List.filter_cons_of_pos (p := fun p : P3 => decide (p.2.1 = k)) (by simpa using h2), List.filter_cons_of_pos (p := fun p : P3 => decide (p.2.1 < k + 1)) (by simpa using h3), doB_cons, doB_cons, ih]
      · have h3 : ¬ p.2.1 < k + 1 := by omega
        rw [List.filter_cons_of_neg (p := fun p : P3 => decide (p.2.1 < k)) (by simpa using h1), List.filter_cons_of_neg (p := fun p : P3 => decide (p.2.1 = k)) (by simpa using h2), List.filter_cons_of_neg (p := fun p : P3 => decide (p.2.1 < k + 1)) (by simpa using h3), ih]
theorem filter_lt0 {l : List P3} (h : ∀ p ∈ l, keyB p.2.1 = true) : (l.filter fun p => decide (p.2.1 < 0)) = [] := by
  rw [List.filter_eq_nil_iff]
  intro p hp
  have := h p hp
  simp only [keyB, decide_eq_true_eq] at this
  simp; omega
theorem filter_lt4 {l : List P3} (h : ∀ p ∈ l, keyB p.2.1 = true) : (l.filter fun p => decide (p.2.1 < 4)) = l := by
  rw [List.filter_eq_self]
  intro p hp
  have := h p hp
  simp only [keyB, decide_eq_true_eq] at this
  simp; omega
theorem small_filter {l : List P3} (h : Small l) (f : P3 → Bool) : Small (l.filter f) := fun p hp => h p (List.mem_filter.1 hp).1
theorem within_two {s : S4} {l m : List P3} (hw : Within 2199023255552 s) (hl : Small l) (hm : Small m) (h1 : l.length ≤ 4) (h2 : m.length ≤ 4) : Within (2199023255552 + 8388608) (doB (doB s l) m) :=
  within_mono (within_doB (within_doB hw hl) hm) (by omega)
theorem eq_snoc_yes (l : List P3) (p : P3) (k : Int) (h : p.2.1 = k) : ((l ++ [p]).filter fun p => decide (p.2.1 = k)) = (l.filter fun p => decide (p.2.1 = k)) ++ [p] := by simp [List.filter_append, h]
theorem eq_snoc_no (l : List P3) (p : P3) (k : Int) (h : ¬ p.2.1 = k) : ((l ++ [p]).filter fun p => decide (p.2.1 = k)) = (l.filter fun p => decide (p.2.1 = k)) := by simp [List.filter_append, h]

set_option maxHeartbeats 1000000 in
theorem refFits_any (s0 s1 s2 s3 : Int) (a : Option Addr) (l : List P3) (cap n : Nat) (w : World) (hn : n = l.length) (hl : l.length ≤ 4) (hp : PartsAt w a l) (hs : Small l) (hky : ∀ p ∈ l, keyB p.2.1 = true) (hw : Within 2199023255552 (s0, s1, s2, s3)) :
    Calls Try.prog 41 #[.agg #[.int .i64 s0, .int .i64 s1, .int .i64 s2, .int .i64 s3], .slice a n cap] w fun e w' => e = .returned (.int .i64 (fitsB (s0, s1, s2, s3) l)) ∧ Below w.heap.size w w' := by
  subst hn
  obtain ⟨⟨a1, a2⟩, ⟨b1, b2⟩, ⟨c1, c2⟩, ⟨d1, d2⟩⟩ := hw
  simp only at a1 a2 b1 b2 c1 c2 d1 d2
  go_enter Try.func41, Try.ntmps41
  go_wp2
  go_loopw [9] (fun i w' => ∃ k : Nat, k ≤ l.length ∧ i = .int .i64 k ∧ Hid (fitsB (s0, s1, s2, s3) l = fitsB (s0, s1, s2, s3) (l.drop k)) ∧ Below (w.alloc (.cells #[.int .i64 s0, .int .i64 s1, .int .i64 s2, .int .i64 s3] 27)).heap.size (w.alloc (.cells #[.int .i64 s0, .int .i64 s1, .int .i64 s2, .int .i64 s3] 27)) w') (fun i _ => l.length - (intOf i).toNat)
  case atStart => exact ⟨0, Nat.zero_le _, rfl, rfl, Below.refl _ _⟩
  case round =>
    obtain ⟨k, hk, rfl, hn, hbw⟩ := hrel
    have hB : Below w.heap.size w wr := (below1 w _).trans (hbw.mono (by simp))
    have hsz : w.heap.size + 1 ≤ wr.heap.size := by have := hbw.size; simpa using this
    by_cases hlt : k < l.length
    · rcases hp with rfl | ⟨b', o, rfl, hb', hc⟩
      · simp at hlt
      obtain ⟨d0, d1', d2'⟩ := hc k hlt
      have HS := hn.out
      rw [fits_step hlt, if_pos (hky _ (List.getElem_mem hlt))] at HS
      have hpn := small_get hs hlt
      have hkey := keyB_iff.1 (hky _ (List.getElem_mem hlt))
      obtain ⟨hcc, hff⟩ := bcell hbw
      have z0 : wr.cell? ⟨w.heap.size, 0, none⟩ = some (.int .i64 s0) := by rw [hcc _ _ (by simp)]; simp
      have z1 : wr.cell? ⟨w.heap.size, 1, none⟩ = some (.int .i64 s1) := by rw [hcc _ _ (by simp)]; simp
      have z2 : wr.cell? ⟨w.heap.size, 2, none⟩ = some (.int .i64 s2) := by rw [hcc _ _ (by simp)]; simp
      have z3 : wr.cell? ⟨w.heap.size, 3, none⟩ = some (.int .i64 s3) := by rw [hcc _ _ (by simp)]; simp
      have hsw : w.heap.size < wr.heap.size := by omega
      have hB1 : ∀ o, Below (w.alloc (.cells #[.int .i64 s0, .int .i64 s1, .int .i64 s2, .int .i64 s3] 27)).heap.size (w.alloc (.cells #[.int .i64 s0, .int .i64 s1, .int .i64 s2, .int .i64 s3] 27)) (wr.alloc o) := fun o => hbw.alloc (by simpa using hsz) o
      have HB : Hid _ := hB1
      clear hcc hff hc hn hs hky hB1 hbw
      obtain ⟨hcc, hff⟩ := bcell hB
      generalize l[k].1 = p0 at *
      generalize l[k].2.1 = p1 at *
      generalize l[k].2.2 = p2 at *
      obtain ⟨hp1, hp2⟩ := hpn
      rcases hkey with rfl | rfl | rfl | rfl
      all_goals
        simp only [sget, ↓reduceIte, Int.reduceEq] at HS
        have HN : Hid _ := HS
        clear HS
        go_wp2
        go_quiet (fail)
        go_wp2
      all_goals first
        | (go_ret; exact ⟨ret_int (by rw [HN.out, if_pos (by omega)]), below_drewN (hB.alloc (by omega) _) _⟩)
        | (go_quiet (fail)
           go_wp2
           all_goals first
             | (go_ret; exact ⟨ret_int (by rw [HN.out, if_neg (by omega), if_pos (by omega)]), by first | exact below_drewN (hB.alloc (by omega) _) _ | exact below_drewN (below_drewN (hB.alloc (by omega) _) _) _⟩)
             | (go_roundw
                case rel => exact ⟨k + 1, by omega, by go_num, by show _ = _; rw [HN.out, if_neg (by omega), if_neg (by omega)], by first | exact below_drewN (HB.out _) _ | exact below_drewN (below_drewN (HB.out _) _) _⟩
                case measure => simp [intOf]; omega))
    · clear hp
      have HE : Hid (fitsB (s0, s1, s2, s3) l = 0) := by
        have e1 := hn.out
        rw [List.drop_eq_nil_of_le (by omega)] at e1
        exact e1
      clear hn
      go_wp2
      go_ret
      exact ⟨ret_int HE.out.symm, hB⟩

end Go.Proofs.Ytikmnaegalmfeaa
