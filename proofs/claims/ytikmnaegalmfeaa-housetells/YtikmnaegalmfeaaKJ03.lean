/- Several texts in one: Plain facts over parts and sums: what is done can be done back, and in whatever order; Plain functions of logs: what the functions of package log come to, with no word of the program. -/
import Derived.Test.YtikmnaegalmfeaaKJ00
namespace Go.Proofs.Ytikmnaegalmfeaa
open Go.RowKit
theorem sadd_comm (s : S4) (a b m n : Int) : sadd (sadd s a m) b n = sadd (sadd s b n) a m := by
  obtain ⟨s0, s1, s2, s3⟩ := s
  unfold sadd
  repeat' split
  all_goals first | rfl | (exfalso; omega) | (refine Prod.ext ?_ (Prod.ext ?_ (Prod.ext ?_ ?_)) <;> (try simp only) <;> omega)
theorem do1_comm (s : S4) (p q : P3) : do1 (do1 s p) q = do1 (do1 s q) p := by
  unfold do1
  split <;> split <;> first | rfl | exact sadd_comm _ _ _ _ _
theorem doB_do1 (s : S4) (p : P3) (l : List P3) : doB (do1 s p) l = do1 (doB s l) p := by
  induction l generalizing s with
  | nil => rfl
  | cons q t ih => simp only [doB, List.foldl_cons] at *; rw [do1_comm, ih]
theorem doB_cons (s : S4) (p : P3) (l : List P3) : doB s (p :: l) = do1 (doB s l) p := by rw [← doB_do1]; rfl
theorem wrongFrom_ok {H : Int} : ∀ {l seen : List P3}, wrongFrom H seen l = 0 → (∀ p ∈ l, inB p H = true) ∧ (∀ p ∈ l, hasB p seen = false) ∧ l.Pairwise (fun p q => sameB p q = false)
  | [], _, _ => by simp
  | p :: t, seen, h => by
    simp only [wrongFrom] at h
    split at h
    · rename_i hin
      split at h
      · cases h
      · rename_i hh
        obtain ⟨h1, h2, h3⟩ := wrongFrom_ok h
        have h2' : ∀ q ∈ t, hasB q seen = false ∧ sameB p q = false := fun q hq => by
          have := h2 q hq
          rw [hasB_snoc, Bool.or_eq_false_iff] at this
          exact this
        refine ⟨fun q hq => ?_, fun q hq => ?_, List.Pairwise.cons (fun q hq => (h2' q hq).2) h3⟩
        · rcases List.mem_cons.1 hq with rfl | hq
          · exact hin
          · exact h1 q hq
        · rcases List.mem_cons.1 hq with rfl | hq
          · simpa using hh
          · exact (h2' q hq).1
    · cases h
theorem wrong_ok {l : List P3} {H : Int} (h : wrong l H = 0) : 1 ≤ l.length ∧ l.length ≤ 4 ∧ (∀ p ∈ l, inB p H = true) ∧ l.Pairwise (fun p q => sameB p q = false) := by
  unfold wrong at h
  split at h
  · cases h
  · obtain ⟨h1, _, h3⟩ := wrongFrom_ok h
    exact ⟨by omega, by omega, h1, h3⟩
theorem small_of {l : List P3} {H : Int} (h : ∀ p ∈ l, inB p H = true) : Small l := fun p hp => by
  have := h p hp
  simp only [inB, decide_eq_true_eq] at this
  omega
theorem keyB_iff {k : Int} : keyB k = true ↔ k = 0 ∨ k = 1 ∨ k = 2 ∨ k = 3 := by simp only [keyB, decide_eq_true_eq]; omega
theorem sget_sadd_same (s : S4) {k : Int} (h : keyB k = true) (n : Int) : sget (sadd s k n) k = sget s k + n := by
  rcases keyB_iff.1 h with rfl | rfl | rfl | rfl <;> simp [sget, sadd]
theorem sget_sadd_other (s : S4) {j k : Int} (hj : keyB j = true) (hk : keyB k = true) (h : j ≠ k) (n : Int) : sget (sadd s k n) j = sget s j := by
  rcases keyB_iff.1 hj with rfl | rfl | rfl | rfl <;> rcases keyB_iff.1 hk with rfl | rfl | rfl | rfl <;> first | (exact absurd rfl h) | simp [sget, sadd]
theorem sget_doB_none {s : S4} {l : List P3} {k : Int} (hk : keyB k = true) (hl : ∀ p ∈ l, p.2.1 ≠ k) : sget (doB s l) k = sget s k := by
  induction l with
  | nil => rfl
  | cons p t ih =>
    rw [doB_cons]
    have h1 := ih (fun q hq => hl q (by simp [hq]))
    unfold do1
    split
    · rename_i hp; rw [sget_sadd_other _ hk hp (Ne.symm (hl p (by simp)))]; exact h1
    · exact h1
theorem sget_doB_mem {s : S4} : ∀ {l : List P3}, l.Pairwise (fun p q => p.2.1 ≠ q.2.1) → ∀ p ∈ l, keyB p.2.1 = true → sget (doB s l) p.2.1 = sget s p.2.1 + p.2.2
  | q :: t, hpw, p, hp, hk => by
    rw [doB_cons]
    cases hpw with
    | cons hq ht =>
      rcases List.mem_cons.1 hp with rfl | hp
      · unfold do1
        rw [if_pos hk, sget_sadd_same _ hk, sget_doB_none hk (fun r hr => (hq r hr).symm)]
      · have ih := sget_doB_mem (s := s) ht p hp hk
        unfold do1
        split
        · rename_i hqk; rw [sget_sadd_other _ hk hqk (hq p hp).symm]; exact ih
        · exact ih
theorem rightS_iff {s : S4} : rightS s = true ↔ ∀ k, keyB k = true → 0 ≤ sget s k ∧ sget s k ≤ 1048576 := by
  obtain ⟨s0, s1, s2, s3⟩ := s
  simp only [rightS, decide_eq_true_eq]
  constructor
  · rintro ⟨h0, h1, h2, h3⟩ k hk
    rcases keyB_iff.1 hk with rfl | rfl | rfl | rfl <;> simp [sget] <;> omega
  · intro h
    have h0 := h 0 (by decide)
    have h1 := h 1 (by decide)
    have h2 := h 2 (by decide)
    have h3 := h 3 (by decide)
    simp [sget] at h0 h1 h2 h3
    exact ⟨h0, h1, h2, h3⟩
theorem fitsB_zero {s : S4} {l : List P3} : fitsB s l = 0 ↔ ∀ p ∈ l, keyB p.2.1 = true → 0 ≤ sget s p.2.1 + p.2.2 ∧ sget s p.2.1 + p.2.2 ≤ 1048576 := by
  induction l with
  | nil => simp [fitsB]
  | cons p t ih =>
    simp only [fitsB, List.mem_cons, forall_eq_or_imp]
    rw [← ih]
    by_cases hk : keyB p.2.1 = true
    · rw [if_pos hk]
      by_cases h1 : sget s p.2.1 + p.2.2 < 0
      · rw [if_pos h1]; constructor
        · intro h; cases h
        · rintro ⟨h, _⟩; have := h hk; omega
      · rw [if_neg h1]
        by_cases h2 : 1048576 < sget s p.2.1 + p.2.2
        · rw [if_pos h2]; constructor
          · intro h; cases h
          · rintro ⟨h, _⟩; have := h hk; omega
        · rw [if_neg h2]; exact ⟨fun h => ⟨fun _ => by omega, h⟩, fun h => h.2⟩
    · rw [if_neg hk]; exact ⟨fun h => ⟨fun h' => absurd h' hk, h⟩, fun h => h.2⟩
theorem within_right {s : S4} (h : rightS s = true) : Within 1048576 s := by
  simp only [rightS, decide_eq_true_eq] at h
  obtain ⟨h0, h1, h2, h3⟩ := h
  exact ⟨⟨by omega, by omega⟩, ⟨by omega, by omega⟩, ⟨by omega, by omega⟩, ⟨by omega, by omega⟩⟩

end Go.Proofs.Ytikmnaegalmfeaa

namespace Go.Proofs.Ytikmnaegalmfeaa
open Go.RowKit

/-- A record: its kind, its deed, its parts. -/
abbrev R3 := Int × Int × List P3
/-- A deed and its parts. -/
abbrev D2 := Int × List P3
/-- What a log makes of a house: sums, what is ready, what is done. -/
abbrev H3 := S4 × List D2 × List Int

def hasD (D : List D2) (d : Int) : Bool := D.any fun x => decide (x.1 = d)
def dropD (D : List D2) (d : Int) : List D2 := D.filter fun x => !decide (x.1 = d)
def firstP (D : List D2) (d : Int) : List P3 := ((D.find? fun x => decide (x.1 = d)).map (·.2)).getD []

def hstep (h : H3) (r : R3) : H3 :=
  if r.1 = 1 then (if hasD h.2.1 r.2.1 then h else (h.1, h.2.1 ++ [(r.2.1, r.2.2)], h.2.2))
  else if r.1 = 2 then (if hasD h.2.1 r.2.1 then (doB h.1 (firstP h.2.1 r.2.1), dropD h.2.1 r.2.1, h.2.2 ++ [r.2.1]) else h)
  else if r.1 = 3 then (h.1, dropD h.2.1 r.2.1, h.2.2)
  else h
def houseB (L : List R3) : H3 := L.foldl hstep ((0, 0, 0, 0), [], [])
theorem houseB_snoc (L : List R3) (r : R3) : houseB (L ++ [r]) = hstep (houseB L) r := by simp [houseB]
/-- Parts that may be reckoned with: few, and small. -/
def OkP (l : List P3) : Prop := l.length ≤ 4 ∧ Small l ∧ ∀ p ∈ l, keyB p.2.1 = true
def OkL (L : List R3) : Prop := ∀ r ∈ L, OkP r.2.2
theorem okP_nil : OkP [] := ⟨by simp, (fun p hp => by cases hp), (fun p hp => by cases hp)⟩
theorem okP_wrong {l : List P3} {H : Int} (h : wrong l H = 0) : OkP l := by
  obtain ⟨_, h4, hin, _⟩ := wrong_ok h
  refine ⟨h4, small_of hin, fun p hp => ?_⟩
  have := hin p hp
  simp only [inB, decide_eq_true_eq] at this
  simp only [keyB, decide_eq_true_eq]; omega

theorem mem_dropD {D : List D2} {d : Int} {x : D2} (h : x ∈ dropD D d) : x ∈ D ∧ x.1 ≠ d := by
  simp only [dropD, List.mem_filter] at h
  exact ⟨h.1, by simpa using h.2⟩
theorem firstP_mem {D : List D2} {d : Int} (h : hasD D d = true) : ∃ x ∈ D, x.1 = d ∧ firstP D d = x.2 := by
  unfold firstP
  cases hf : D.find? fun x => decide (x.1 = d) with
  | none =>
    rw [List.find?_eq_none] at hf
    simp only [hasD, List.any_eq_true] at h
    obtain ⟨x, hx, hd⟩ := h
    exact absurd hd (by simpa using hf x hx)
  | some x => exact ⟨x, List.mem_of_find?_eq_some hf, by simpa using List.find?_some hf, rfl⟩

/-- What holds of what a log makes, k records on. -/
structure HInv (k : Nat) (h : H3) : Prop where
  ok : ∀ x ∈ h.2.1, OkP x.2
  nd : (h.2.1.map (·.1)).Nodup
  within : Within (k * 4194304) h.1
  few : h.2.1.length ≤ k
  done : h.2.2.length ≤ k

theorem nodup_dropD {D : List D2} (h : (D.map (·.1)).Nodup) (d : Int) : ((dropD D d).map (·.1)).Nodup :=
  List.Nodup.sublist (List.Sublist.map _ List.filter_sublist) h
theorem hstep_inv {k : Nat} {h : H3} {r : R3} (H : HInv k h) (hr : OkP r.2.2) : HInv (k + 1) (hstep h r) := by
  have e : (((k + 1 : Nat) : Int) * 4194304) = (k : Int) * 4194304 + 4194304 := by omega
  have hw : Within (((k + 1 : Nat) : Int) * 4194304) h.1 := within_mono H.within (by omega)
  unfold hstep
  split
  · split
    · exact ⟨H.ok, H.nd, hw, by have := H.few; omega, by have := H.done; omega⟩
    · rename_i hn
      refine ⟨?_, ?_, hw, ?_, by have := H.done; show h.2.2.length ≤ _; omega⟩
      · intro x hx
        rcases List.mem_append.1 hx with hx | hx
        · exact H.ok x hx
        · rw [List.mem_singleton.1 hx]; exact hr
      · show ((h.2.1 ++ [(r.2.1, r.2.2)]).map (·.1)).Nodup
        rw [List.map_append, List.nodup_append]
        refine ⟨H.nd, by simp, ?_⟩
        intro a ha b hb hab
        simp at hb
        subst hb
        subst hab
        obtain ⟨x, hx, hxa⟩ := List.mem_map.1 ha
        exact hn (by simp only [hasD, List.any_eq_true]; exact ⟨x, hx, by simpa using hxa⟩)
      · show (h.2.1 ++ [(r.2.1, r.2.2)]).length ≤ k + 1
        have := H.few
        simp; omega
  · split
    · split
      · rename_i hs
        obtain ⟨x, hx, hd, hp⟩ := firstP_mem hs
        obtain ⟨o1, o2, _⟩ := H.ok x hx
        refine ⟨fun y hy => H.ok y (mem_dropD hy).1, nodup_dropD H.nd _, ?_, ?_, ?_⟩
        · show Within _ (doB h.1 (firstP h.2.1 r.2.1))
          rw [hp]
          refine within_mono (within_doB H.within o2) ?_
          omega
        · have := H.few
          have := List.length_filter_le (fun x : D2 => !decide (x.1 = r.2.1)) h.2.1
          show (dropD h.2.1 r.2.1).length ≤ _
          unfold dropD; omega
        · have := H.done
          show (h.2.2 ++ [r.2.1]).length ≤ _
          simp; omega
      · exact ⟨H.ok, H.nd, hw, by have := H.few; omega, by have := H.done; omega⟩
    · split
      · refine ⟨fun y hy => H.ok y (mem_dropD hy).1, nodup_dropD H.nd _, hw, ?_, by have := H.done; show h.2.2.length ≤ _; omega⟩
        have := H.few
        have := List.length_filter_le (fun x : D2 => !decide (x.1 = r.2.1)) h.2.1
        show (dropD h.2.1 r.2.1).length ≤ _
        unfold dropD; omega
      · exact ⟨H.ok, H.nd, hw, by have := H.few; omega, by have := H.done; omega⟩
theorem houseB_inv : ∀ {L : List R3}, OkL L → HInv L.length (houseB L) := by
  intro L
  suffices h : ∀ (n : Nat) (L : List R3), L.length = n → OkL L → HInv n (houseB L) from fun h' => h _ L rfl h'
  intro n
  induction n with
  | zero =>
    intro L hL _
    obtain rfl := List.eq_nil_of_length_eq_zero hL
    exact ⟨(fun x hx => by cases hx), by simp [houseB], by simp [houseB, Within], by simp [houseB], by simp [houseB]⟩
  | succ n ih =>
    intro L hL hok
    have hne : n < L.length := by omega
    have e : L = L.take n ++ [L[n]] := by rw [← take_snoc hne, List.take_of_length_le (by omega)]
    rw [e, houseB_snoc]
    refine hstep_inv (ih _ (by simp; omega) (fun r hr => hok r (List.mem_of_mem_take hr))) (hok _ (List.getElem_mem hne))
theorem okL_take {L : List R3} (h : OkL L) (k : Nat) : OkL (L.take k) := fun r hr => h r (List.mem_of_mem_take hr)
theorem houseB_inv_take {L : List R3} (h : OkL L) {k : Nat} (hk : k ≤ L.length) : HInv k (houseB (L.take k)) := by
  have := houseB_inv (okL_take h k)
  rwa [List.length_take, Nat.min_eq_left hk] at this

/-- A log that can be reckoned with: right parts, sums on the way within bounds, and not too long for any memory. -/
structure CalcL (L : List R3) : Prop where
  ok : OkL L
  within : ∀ k, k ≤ L.length → Within 2199023255552 (houseB (L.take k)).1
  size : L.length * 40 ≤ 140737488355328
theorem CalcL.of {L : List R3} (h : OkL L) (hl : L.length ≤ 500000) : CalcL L :=
  ⟨h, fun k hk => within_mono (houseB_inv_take h hk).within (by omega), by omega⟩

end Go.Proofs.Ytikmnaegalmfeaa
