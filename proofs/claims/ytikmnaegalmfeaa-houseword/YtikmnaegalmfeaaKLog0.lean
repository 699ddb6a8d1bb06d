/- Plain functions of logs: what the functions of package log come to, with no word of the program. -/
import Derived.Test.YtikmnaegalmfeaaKPure
import Derived.Test.YtikmnaegalmfeaaKPure2
namespace Go.Proofs.Ytikmnaegalmfeaa
open Go.RowKit

/-- A record: its kind, its deed, its parts. -/
abbrev R3 := Int × Int × List P3
/-- A deed and its parts. -/
abbrev D2 := Int × List P3
/-- What a log makes of a house: sums, what is ready, what is done. -/
abbrev H3 := S4 × List D2 × List Int

def hasD (D : List D2) (d : Int) : Bool := D.any fun x => decide (x.1 = d)
def dropD (D : List D2) (d : Int) : List D2 := D.filter fun x => !decide (x.1 = d)
def firstP (D : List D2) (d : Int) : List P3 := ((D.find? fun x => decide (x.1 = d)).map (·.2)).getD []

def hstep (h : H3) (r : R3) : H3 :=
  if r.1 = 1 then (if hasD h.2.1 r.2.1 then h else (h.1, h.2.1 ++ [(r.2.1, r.2.2)], h.2.2))
  else if r.1 = 2 then (if hasD h.2.1 r.2.1 then (doB h.1 (firstP h.2.1 r.2.1), dropD h.2.1 r.2.1, h.2.2 ++ [r.2.1]) else h)
  else if r.1 = 3 then (h.1, dropD h.2.1 r.2.1, h.2.2)
  else h
def houseB (L : List R3) : H3 := L.foldl hstep ((0, 0, 0, 0), [], [])
theorem houseB_snoc (L : List R3) (r : R3) : houseB (L ++ [r]) = hstep (houseB L) r := by simp [houseB]
/-- Parts that may be reckoned with: few, and small. -/
def OkP (l : List P3) : Prop := l.length ≤ 4 ∧ Small l ∧ ∀ p ∈ l, keyB p.2.1 = true
def OkL (L : List R3) : Prop := ∀ r ∈ L, OkP r.2.2
theorem okP_nil : OkP [] := ⟨by simp, (fun p hp => by cases hp), (fun p hp => by cases hp)⟩
theorem okP_wrong {l : List P3} {H : Int} (h : wrong l H = 0) : OkP l := by
  obtain ⟨_, h4, hin, _⟩ := wrong_ok h
  refine ⟨h4, small_of hin, fun p hp => ?_⟩
  have := hin p hp
  simp only [inB, decide_eq_true_eq] at this
  simp only [keyB, decide_eq_true_eq]; omega

theorem mem_dropD {D : List D2} {d : Int} {x : D2} (h : x ∈ dropD D d) : x ∈ D ∧ x.1 ≠ d := by
  simp only [dropD, List.mem_filter] at h
  exact ⟨h.1, by simpa using h.2⟩
theorem firstP_mem {D : List D2} {d : Int} (h : hasD D d = true) : ∃ x ∈ D, x.1 = d ∧ firstP D d = x.2 := by
  unfold firstP
  cases hf : D.find? fun x => decide (x.1 = d) with
  | none =>
    rw [List.find?_eq_none] at hf
    simp only [hasD, List.any_eq_true] at h
    obtain ⟨x, hx, hd⟩ := h
    exact absurd hd (by simpa using hf x hx)
  | some x => exact ⟨x, List.mem_of_find?_eq_some hf, by simpa using List.find?_some hf, rfl⟩

/-- What holds of what a log makes, k records on. -/
structure HInv (k : Nat) (h : H3) : Prop where
  ok : ∀ x ∈ h.2.1, OkP x.2
  nd : (h.2.1.map (·.1)).Nodup
  within : Within (k * 4194304) h.1
  few : h.2.1.length ≤ k
  done : h.2.2.length ≤ k

theorem nodup_dropD {D : List D2} (h : (D.map (·.1)).Nodup) (d : Int) : ((dropD D d).map (·.1)).Nodup :=
  List.Nodup.sublist (List.Sublist.map _ List.filter_sublist) h
theorem hstep_inv {k : Nat} {h : H3} {r : R3} (H : HInv k h) (hr : OkP r.2.2) : HInv (k + 1) (hstep h r) := by
  have e : (((k + 1 : Nat) : Int) * 4194304) = (k : Int) * 4194304 + 4194304 := by omega
  have hw : Within (((k + 1 : Nat) : Int) * 4194304) h.1 := within_mono H.within (by omega)
  unfold hstep
  split
  · split
    · exact ⟨H.ok, H.nd, hw, by have := H.few; omega, by have := H.done; omega⟩
    · rename_i hn
      refine ⟨?_, ?_, hw, ?_, by have := H.done; show h.2.2.length ≤ _; omega⟩
      · intro x hx
        rcases List.mem_append.1 hx with hx | hx
        · exact H.ok x hx
        · rw [List.mem_singleton.1 hx]; exact hr
      · show ((h.2.1 ++ [(r.2.1, r.2.2)]).map (·.1)).Nodup
        rw [List.map_append, List.nodup_append]
        refine ⟨H.nd, by simp, ?_⟩
        intro a ha b hb hab
        simp at hb
        subst hb
        subst hab
        obtain ⟨x, hx, hxa⟩ := List.mem_map.1 ha
        exact hn (by simp only [hasD, List.any_eq_true]; exact ⟨x, hx, by simpa using hxa⟩)
      · show (h.2.1 ++ [(r.2.1, r.2.2)]).length ≤ k + 1
        have := H.few
        simp; omega
  · split
    · split
      · rename_i hs
        obtain ⟨x, hx, hd, hp⟩ := firstP_mem hs
        obtain ⟨o1, o2, _⟩ := H.ok x hx
        refine ⟨fun y hy => H.ok y (mem_dropD hy).1, nodup_dropD H.nd _, ?_, ?_, ?_⟩
        · show Within _ (doB h.1 (firstP h.2.1 r.2.1))
          rw [hp]
          refine within_mono (within_doB H.within o2) ?_
          omega
        · have := H.few
          have := List.length_filter_le (fun x : D2 => !decide (x.1 = r.2.1)) h.2.1
          show (dropD h.2.1 r.2.1).length ≤ _
          unfold dropD; omega
        · have := H.done
          show (h.2.2 ++ [r.2.1]).length ≤ _
          simp; omega
      · exact ⟨H.ok, H.nd, hw, by have := H.few; omega, by have := H.done; omega⟩
    · split
      · refine ⟨fun y hy => H.ok y (mem_dropD hy).1, nodup_dropD H.nd _, hw, ?_, by have := H.done; show h.2.2.length ≤ _; omega⟩
        have := H.few
        have := List.length_filter_le (fun x : D2 => !decide (x.1 = r.2.1)) h.2.1
        show (dropD h.2.1 r.2.1).length ≤ _
        unfold dropD; omega
      · exact ⟨H.ok, H.nd, hw, by have := H.few; omega, by have := H.done; omega⟩
theorem houseB_inv : ∀ {L : List R3}, OkL L → HInv L.length (houseB L) := by
  intro L
  suffices h : ∀ (n : Nat) (L : List R3), L.length = n → OkL L → HInv n (houseB L) from fun h' => h _ L rfl h'
  intro n
  induction n with
  | zero =>
    intro L hL _
    obtain rfl := List.eq_nil_of_length_eq_zero hL
    exact ⟨(fun x hx => by cases hx), by simp [houseB], by simp [houseB, Within], by simp [houseB], by simp [houseB]⟩
  | succ n ih =>
    intro L hL hok
    have hne : n < L.length := by omega
    have e : L = L.take n ++ [L[n]] := by rw [← take_snoc hne, List.take_of_length_le (by omega)]
    rw [e, houseB_snoc]
    refine hstep_inv (ih _ (by simp; omega) (fun r hr => hok r (List.mem_of_mem_take hr))) (hok _ (List.getElem_mem hne))
theorem okL_take {L : List R3} (h : OkL L) (k : Nat) : OkL (L.take k) := fun r hr => h r (List.mem_of_mem_take hr)
theorem houseB_inv_take {L : List R3} (h : OkL L) {k : Nat} (hk : k ≤ L.length) : HInv k (houseB (L.take k)) := by
  have := houseB_inv (okL_take h k)
  rwa [List.length_take, Nat.min_eq_left hk] at this

/-- A log that can be reckoned with: right parts, sums on the way within bounds, and not too long for any memory. -/
structure CalcL (L : List R3) : Prop where
  ok : OkL L
  within : ∀ k, k ≤ L.length → Within 2199023255552 (houseB (L.take k)).1
  size : L.length * 40 ≤ 140737488355328
theorem CalcL.of {L : List R3} (h : OkL L) (hl : L.length ≤ 500000) : CalcL L :=
  ⟨h, fun k hk => within_mono (houseB_inv_take h hk).within (by omega), by omega⟩

end Go.Proofs.Ytikmnaegalmfeaa
