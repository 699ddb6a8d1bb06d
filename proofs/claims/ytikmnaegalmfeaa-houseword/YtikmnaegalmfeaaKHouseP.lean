/- Plain functions of houses that hear: votes, and what is noted; no two deeds that a house is ready for are at one key. -/
import Derived.Test.YtikmnaegalmfeaaKJ16
namespace Go.Proofs.Ytikmnaegalmfeaa
open Go.RowKit

def inI (l : List Int) (d : Int) : Bool := l.any fun x => decide (x = d)
theorem inI_snoc (l : List Int) (x d : Int) : inI (l ++ [x]) d = (inI l d || decide (x = d)) := by simp [inI]
/-- Is somebody at a key of these parts, by who is? -/
def takenB (D : List D2) (l : List P3) : Bool := l.any fun p => decide (0 ≤ whoB D p.2.1)
def voteB (h : H3) (d : Int) (l : List P3) : Int :=
  if inI h.2.2 d = true then 10 else if hasD h.2.1 d = true then 0 else if takenB h.2.1 l = true then 12 else fitsB h.1 l
/-- What a house notes at a message. -/
def hearR (h : H3) (k d : Int) (l : List P3) : Option R3 :=
  if k = 1 then (if voteB h d l = 0 ∧ hasD h.2.1 d = false then some (1, d, l) else none)
  else if k = 4 then (if hasD h.2.1 d = true then some (2, d, []) else none)
  else if k = 5 then (if hasD h.2.1 d = true then some (3, d, []) else none)
  else none
/-- Its log then. -/
def hearL (L : List R3) (k d : Int) (l : List P3) : List R3 := L ++ (hearR (houseB L) k d l).toList
theorem hearL_len (L : List R3) (k d : Int) (l : List P3) : (hearL L k d l).length ≤ L.length + 1 := by
  unfold hearL
  rw [List.length_append]
  cases hearR (houseB L) k d l <;> simp
theorem hearL_none {L : List R3} {k d : Int} {l : List P3} (h : hearR (houseB L) k d l = none) : hearL L k d l = L := by simp [hearL, h]
theorem hearL_some {L : List R3} {k d : Int} {l : List P3} {r : R3} (h : hearR (houseB L) k d l = some r) : hearL L k d l = L ++ [r] := by simp [hearL, h]

/-- A message: kind, deed, house, parts. -/
abbrev Q4 := Int × Int × Int × List P3
/-- The kind of what a house says at a message. -/
def hearS (L : List R3) (k d : Int) (l : List P3) : Option Int :=
  if k = 1 then (if voteB (houseB L) d l = 10 then none else if voteB (houseB L) d l = 0 then some 2 else some 3)
  else if k = 4 then (if inI (houseB (hearL L k d l)).2.2 d = true then some 6 else none)
  else none
def hearM (L : List R3) (me k d : Int) (l : List P3) : List Q4 := (hearS L k d l).toList.map fun s => (s, d, me, [])

/-- What is wrong with a message. -/
def wrongMB (k d h : Int) (l : List P3) : Int :=
  if k < 1 ∨ 7 < k then 1 else if d < 0 ∨ 1343 < d ∨ h < 0 ∨ 2 < h then 3
  else if 1 < k then (if l.length = 0 then 0 else 5)
  else if wrong l 3 = 0 then (if (l.any fun p => !decide (p.1 = h)) = true then 3 else 0) else wrong l 3
theorem wrongMB_ok {k d h : Int} {l : List P3} (hw : wrongMB k d h l = 0) : 0 ≤ d ∧ d ≤ 1343 ∧ 1 ≤ k ∧ k ≤ 7 ∧ (1 < k → l = []) ∧ (k = 1 → wrong l 3 = 0 ∧ ∀ p ∈ l, p.1 = h) := by
  unfold wrongMB at hw
  split at hw
  · cases hw
  · rename_i h1
    split at hw
    · cases hw
    · rename_i h2
      refine ⟨by omega, by omega, by omega, by omega, fun h3 => ?_, fun h3 => ?_⟩
      · rw [if_pos h3] at hw
        split at hw
        · rename_i h4; exact List.eq_nil_of_length_eq_zero h4
        · cases hw
      · rw [if_neg (by omega)] at hw
        split at hw
        · rename_i h4
          split at hw
          · cases hw
          · rename_i h5
            refine ⟨h4, fun p hp => ?_⟩
            simp only [List.any_eq_true, Bool.not_eq_true', decide_eq_false_iff_not, not_exists, not_and, Decidable.not_not] at h5
            exact h5 p hp
        · rename_i h4; exact absurd hw h4

/-- No two deeds are at one key, and each fits. -/
structure Lone (h : H3) : Prop where
  pos : ∀ x ∈ h.2.1, 0 ≤ x.1
  ok : ∀ x ∈ h.2.1, OkP x.2
  nd : (h.2.1.map (·.1)).Nodup
  sep : h.2.1.Pairwise (fun x y => ∀ p ∈ x.2, ∀ q ∈ y.2, p.2.1 ≠ q.2.1)
  own : ∀ x ∈ h.2.1, x.2.Pairwise (fun p q => p.2.1 ≠ q.2.1)
  fits : ∀ x ∈ h.2.1, ∀ p ∈ x.2, 0 ≤ sget h.1 p.2.1 + p.2.2 ∧ sget h.1 p.2.1 + p.2.2 ≤ 1048576
  right : rightS h.1 = true
theorem sep_two : ∀ {D : List D2}, D.Pairwise (fun x y => ∀ p ∈ x.2, ∀ q ∈ y.2, p.2.1 ≠ q.2.1) → ∀ x ∈ D, ∀ y ∈ D, x.1 ≠ y.1 → ∀ p ∈ x.2, ∀ q ∈ y.2, p.2.1 ≠ q.2.1
  | [], _, x, hx => by cases hx
  | z :: t, h, x, hx => by
    intro y hy hne p hp q hq
    rw [List.pairwise_cons] at h
    rcases List.mem_cons.1 hx with ex | hx
    · rcases List.mem_cons.1 hy with ey | hy
      · exact absurd (by rw [ex, ey]) hne
      · rw [ex] at hp
        exact h.1 y hy p hp q hq
    · rcases List.mem_cons.1 hy with ey | hy
      · rw [ey] at hq
        exact fun e => h.1 x hx q hq p hp e.symm
      · exact sep_two h.2 x hx y hy hne p hp q hq
theorem takenB_free {D : List D2} {l : List P3} (hD : ∀ x ∈ D, 0 ≤ x.1) (h : takenB D l = false) : ∀ p ∈ l, ∀ x ∈ D, ∀ q ∈ x.2, q.2.1 ≠ p.2.1 := by
  intro p hp x hx q hq e
  simp only [takenB, List.any_eq_false, decide_eq_true_eq] at h
  have h1 := h p hp
  have h2 := whoB_neg hD p.2.1
  have h3 : atK D p.2.1 = true := by
    simp only [atK, hasK, List.any_eq_true, decide_eq_true_eq]
    exact ⟨x, hx, q, hq, e⟩
  rw [h3, decide_eq_true (by omega)] at h2
  cases h2
theorem keys_at {l : List P3} {c H : Int} (hin : ∀ p ∈ l, inB p H = true) (hc : ∀ p ∈ l, p.1 = c) (hpw : l.Pairwise (fun p q => sameB p q = false)) : (∀ p ∈ l, keyB p.2.1 = true) ∧ l.Pairwise (fun p q => p.2.1 ≠ q.2.1) := by
  refine ⟨fun p hp => ?_, List.Pairwise.imp_of_mem (fun hp hq h => ?_) hpw⟩
  · have := hin p hp
    simp only [inB, decide_eq_true_eq] at this
    simp only [keyB, decide_eq_true_eq]; omega
  · simp only [sameB, decide_eq_false_iff_not, not_and] at h
    exact h ((hc _ hp).trans (hc _ hq).symm)
theorem lone_ready {h : H3} {d c : Int} {l : List P3} (H : Lone h) (hd : 0 ≤ d) (hw : wrong l 3 = 0) (hh : ∀ p ∈ l, p.1 = c) (hv : voteB h d l = 0) (hn : hasD h.2.1 d = false) : Lone (hstep h (1, d, l)) := by
  obtain ⟨s, D, dn⟩ := h
  have e : hstep (s, D, dn) (1, d, l) = (s, D ++ [(d, l)], dn) := by
    unfold hstep
    rw [if_pos rfl, if_neg (by rw [hn]; simp)]
  rw [e]
  obtain ⟨h1, h4, hin, hpw⟩ := wrong_ok hw
  have hok := okP_wrong hw
  have hkeys := keys_at hin hh hpw
  unfold voteB at hv
  simp only at hv hn
  split at hv
  · cases hv
  rw [if_neg (by rw [hn]; simp)] at hv
  split at hv
  · cases hv
  rename_i ht
  have hfree := takenB_free H.pos (by simpa using ht)
  have hfits := fitsB_zero.1 hv
  refine ⟨?_, ?_, ?_, ?_, ?_, ?_, H.right⟩
  · intro x hx
    rcases List.mem_append.1 hx with hx | hx
    · exact H.pos x hx
    · rw [List.mem_singleton.1 hx]; exact hd
  · intro x hx
    rcases List.mem_append.1 hx with hx | hx
    · exact H.ok x hx
    · rw [List.mem_singleton.1 hx]; exact hok
  · show ((D ++ [(d, l)]).map (·.1)).Nodup
    rw [List.map_append, List.nodup_append]
    refine ⟨H.nd, by simp, ?_⟩
    intro a ha b hb hab
    simp at hb
    subst hb
    subst hab
    obtain ⟨x, hx, hxa⟩ := List.mem_map.1 ha
    simp only [hasD, List.any_eq_false, decide_eq_true_eq] at hn
    exact hn x hx hxa
  · show (D ++ [(d, l)]).Pairwise _
    rw [List.pairwise_append]
    refine ⟨H.sep, by simp, ?_⟩
    intro x hx y hy p hp q hq
    rw [List.mem_singleton.1 hy] at hq
    exact hfree q hq x hx p hp
  · intro x hx
    rcases List.mem_append.1 hx with hx | hx
    · exact H.own x hx
    · rw [List.mem_singleton.1 hx]; exact hkeys.2
  · intro x hx p hp
    rcases List.mem_append.1 hx with hx | hx
    · exact H.fits x hx p hp
    · rw [List.mem_singleton.1 hx] at hp
      exact hfits p hp (hkeys.1 p hp)
theorem lone_sub {h : H3} (H : Lone h) (d : Int) (dn : List Int) : Lone (h.1, dropD h.2.1 d, dn) :=
  ⟨fun x hx => H.pos x (mem_dropD hx).1, fun x hx => H.ok x (mem_dropD hx).1, nodup_dropD H.nd d, List.Pairwise.sublist List.filter_sublist H.sep, fun x hx => H.own x (mem_dropD hx).1, fun x hx => H.fits x (mem_dropD hx).1, H.right⟩
theorem lone_drop {h : H3} {d : Int} {l : List P3} (H : Lone h) : Lone (hstep h (3, d, l)) := by
  have e : hstep h (3, d, l) = (h.1, dropD h.2.1 d, h.2.2) := by
    unfold hstep
    rw [if_neg (fun h => absurd (show (3 : Int) = 1 from h) (by decide)), if_neg (fun h => absurd (show (3 : Int) = 2 from h) (by decide)), if_pos rfl]
  rw [e]
  exact lone_sub H d _
theorem right_doB {s : S4} {l : List P3} (hs : rightS s = true) (hpw : l.Pairwise (fun p q => p.2.1 ≠ q.2.1)) (hf : ∀ p ∈ l, 0 ≤ sget s p.2.1 + p.2.2 ∧ sget s p.2.1 + p.2.2 ≤ 1048576) : rightS (doB s l) = true := by
  rw [rightS_iff] at hs ⊢
  intro k hkk
  by_cases hx : ∃ p ∈ l, p.2.1 = k
  · obtain ⟨p, hp, rfl⟩ := hx
    rw [sget_doB_mem hpw p hp hkk]
    exact hf p hp
  · rw [sget_doB_none hkk (fun p hp e => hx ⟨p, hp, e⟩)]
    exact hs k hkk
theorem lone_done {h : H3} {d : Int} {l : List P3} (H : Lone h) (hd : hasD h.2.1 d = true) : Lone (hstep h (2, d, l)) := by
  have e : hstep h (2, d, l) = (doB h.1 (firstP h.2.1 d), dropD h.2.1 d, h.2.2 ++ [d]) := by
    unfold hstep
    rw [if_neg (fun h => absurd (show (2 : Int) = 1 from h) (by decide)), if_pos rfl, if_pos hd]
  rw [e]
  obtain ⟨x, hx, hxd, hf⟩ := firstP_mem hd
  rw [hf]
  have A := lone_sub H d (h.2.2 ++ [d])
  refine ⟨A.pos, A.ok, A.nd, A.sep, A.own, ?_, right_doB H.right (H.own x hx) (H.fits x hx)⟩
  intro y hy p hp
  obtain ⟨hyD, hyd⟩ := mem_dropD hy
  have hky := (H.ok y hyD).2.2 p hp
  show 0 ≤ sget (doB h.1 x.2) p.2.1 + p.2.2 ∧ _
  rw [sget_doB_none hky (fun q hq => sep_two H.sep x hx y hyD (by rw [hxd]; exact fun e => hyd e.symm) q hq p hp)]
  exact H.fits y hyD p hp

/-- What holds of the log of a house that hears. -/
structure Good (L : List R3) : Prop where
  ok : OkL L
  within : ∀ k, k ≤ L.length → Within 2199023255552 (houseB (L.take k)).1
  lone : Lone (houseB L)
theorem Good.note {L : List R3} (H : Good L) {r : R3} (hr : OkP r.2.2) (ha : Lone (hstep (houseB L) r)) : Good (L ++ [r]) := by
  refine ⟨?_, ?_, by rw [houseB_snoc]; exact ha⟩
  · intro q hq
    rcases List.mem_append.1 hq with hq | hq
    · exact H.ok q hq
    · rw [List.mem_singleton.1 hq]; exact hr
  · intro k hk
    by_cases h : k ≤ L.length
    · rw [List.take_append_of_le_length h]
      exact H.within k h
    · rw [List.take_of_length_le (by simp; omega), houseB_snoc]
      exact within_mono (within_right ha.right) (by decide)
theorem Good.hear {L : List R3} (H : Good L) {k d c : Int} {l : List P3} (hw : wrongMB k d c l = 0) : Good (hearL L k d l) := by
  obtain ⟨h1, h2, h3, h4, h5, h6⟩ := wrongMB_ok hw
  cases hr : hearR (houseB L) k d l with
  | none => rw [hearL_none hr]; exact H
  | some r =>
    rw [hearL_some hr]
    unfold hearR at hr
    split at hr
    · rename_i hk
      split at hr
      · rename_i hc
        cases hr
        obtain ⟨h7, h8⟩ := h6 hk
        exact H.note (okP_wrong h7) (lone_ready H.lone h1 h7 h8 hc.1 hc.2)
      · cases hr
    · split at hr
      · split at hr
        · rename_i hc
          cases hr
          exact H.note okP_nil (lone_done H.lone hc)
        · cases hr
      · split at hr
        · split at hr
          · rename_i hc
            cases hr
            exact H.note okP_nil (lone_drop H.lone)
          · cases hr
        · cases hr

end Go.Proofs.Ytikmnaegalmfeaa
