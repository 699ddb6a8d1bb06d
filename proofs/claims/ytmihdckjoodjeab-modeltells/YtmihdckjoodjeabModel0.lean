/- Plain functions over several houses' sums: what the functions of package model come to, and their laws, with no word of the program. -/
import Derived.Test.YtmihdckjoodjeabPure2
namespace Go.Proofs.Ytmihdckjoodjeab
open Go.RowKit

def ofP (l : List P3) (i : Nat) : List P3 := l.filter fun p => decide (p.1 = (i : Int))
def errFrom (l : List P3) : Nat → List S4 → Int
  | _, [] => 0
  | i, s :: t => if fitsB s (ofP l i) = 0 then errFrom l (i + 1) t else fitsB s (ofP l i)
def doneFrom (l : List P3) : Nat → List S4 → List S4
  | _, [] => []
  | i, s :: t => doB s (ofP l i) :: doneFrom l (i + 1) t
def errM (S : List S4) (l : List P3) : Int := errFrom l 0 S
def doM (S : List S4) (l : List P3) : List S4 := if errM S l = 0 then doneFrom l 0 S else S
def sum4 (s : S4) : Int := s.1 + s.2.1 + s.2.2.1 + s.2.2.2
def totalB (S : List S4) : Int := (S.map sum4).sum
def sumN (l : List P3) : Int := (l.map fun p => p.2.2).sum
def RightM (S : List S4) : Prop := ∀ s ∈ S, rightS s = true
def allM (S : List S4) : List (List P3) → List S4
  | [] => S
  | l :: t => allM (doM S l) t
def errsM (S : List S4) : List (List P3) → List Int
  | [] => []
  | l :: t => errM S l :: errsM (doM S l) t

theorem doneFrom_len (l : List P3) : ∀ (i : Nat) (S : List S4), (doneFrom l i S).length = S.length
  | _, [] => rfl
  | i, s :: t => by simp only [doneFrom, List.length_cons]; rw [doneFrom_len l (i + 1) t]
theorem doM_len (S : List S4) (l : List P3) : (doM S l).length = S.length := by
  unfold doM; split
  · exact doneFrom_len _ _ _
  · rfl
theorem doneFrom_get (l : List P3) : ∀ (i : Nat) (S : List S4) (k : Nat) (h : k < S.length) (h' : k < (doneFrom l i S).length), (doneFrom l i S)[k] = doB S[k] (ofP l (i + k))
  | i, s :: t, 0, _, _ => rfl
  | i, s :: t, k + 1, h, h' => by
    simp only [doneFrom, List.getElem_cons_succ]
    rw [doneFrom_get l (i + 1) t k (by simpa using h) (by rw [doneFrom_len]; simpa using h)]
    rw [show i + 1 + k = i + (k + 1) by omega]
theorem doneFrom_append (l : List P3) : ∀ (i : Nat) (S T : List S4), doneFrom l i (S ++ T) = doneFrom l i S ++ doneFrom l (i + S.length) T
  | i, [], T => by simp [doneFrom]
  | i, s :: t, T => by
    simp only [List.cons_append, doneFrom, List.length_cons]
    rw [doneFrom_append l (i + 1) t T, show i + 1 + t.length = i + (t.length + 1) by omega]
theorem done_take {S : List S4} {k : Nat} (h : k < S.length) (l : List P3) : doneFrom l 0 (S.take (k + 1)) = doneFrom l 0 (S.take k) ++ [doB S[k] (ofP l k)] := by
  rw [take_snoc h, doneFrom_append]
  congr 1
  simp only [doneFrom, Nat.zero_add, List.length_take]
  rw [Nat.min_eq_left (by omega)]
theorem err_step {S : List S4} {l : List P3} {k : Nat} (h : k < S.length) : errFrom l k (S.drop k) = if fitsB S[k] (ofP l k) = 0 then errFrom l (k + 1) (S.drop (k + 1)) else fitsB S[k] (ofP l k) := by
  rw [List.drop_eq_getElem_cons h]; simp only [errFrom]
theorem errFrom_zero {l : List P3} : ∀ {i : Nat} {S : List S4}, errFrom l i S = 0 ↔ ∀ k (h : k < S.length), fitsB S[k] (ofP l (i + k)) = 0
  | i, [] => by simp [errFrom]
  | i, s :: t => by
    simp only [errFrom]
    constructor
    · intro h
      split at h
      · rename_i h0
        intro k hk
        cases k with
        | zero => simpa using h0
        | succ k =>
          have := (errFrom_zero (i := i + 1) (S := t)).1 h k (by simpa using hk)
          simp only [List.getElem_cons_succ]
          rw [show i + (k + 1) = i + 1 + k by omega]; exact this
      · rename_i h0; exact absurd h h0
    · intro h
      have h0 := h 0 (by simp)
      rw [Nat.add_zero] at h0
      rw [if_pos (show fitsB s (ofP l i) = 0 from h0)]
      refine (errFrom_zero (i := i + 1) (S := t)).2 fun k hk => ?_
      have := h (k + 1) (by simpa using hk)
      simp only [List.getElem_cons_succ] at this
      rw [show i + 1 + k = i + (k + 1) by omega]; exact this

theorem fitsB_congr {s t : S4} : ∀ {l : List P3}, (∀ p ∈ l, sget s p.2.1 = sget t p.2.1) → fitsB s l = fitsB t l
  | [], _ => rfl
  | p :: l, h => by
    simp only [fitsB]
    rw [h p (by simp), fitsB_congr (l := l) (fun q hq => h q (by simp [hq]))]
theorem errFrom_congr {l : List P3} : ∀ {i : Nat} {S T : List S4}, S.length = T.length → (∀ k (h : k < S.length) (h' : k < T.length), fitsB S[k] (ofP l (i + k)) = fitsB T[k] (ofP l (i + k))) → errFrom l i S = errFrom l i T
  | i, [], [], _, _ => rfl
  | i, s :: S, t :: T, hl, h => by
    have h0 := h 0 (by simp) (by simp)
    simp only [List.getElem_cons_zero, Nat.add_zero] at h0
    simp only [errFrom]
    rw [h0, errFrom_congr (i := i + 1) (S := S) (T := T) (by simpa using hl) (fun k h1 h2 => by
      have := h (k + 1) (by simpa using h1) (by simpa using h2)
      simp only [List.getElem_cons_succ] at this
      rw [show i + 1 + k = i + (k + 1) by omega]; exact this)]

theorem mem_ofP {l : List P3} {i : Nat} {p : P3} (h : p ∈ ofP l i) : p ∈ l ∧ p.1 = (i : Int) := by
  unfold ofP at h
  obtain ⟨h1, h2⟩ := List.mem_filter.1 h
  exact ⟨h1, by simpa using h2⟩
theorem ofP_len (l : List P3) (i : Nat) : (ofP l i).length ≤ l.length := List.length_filter_le _ _
theorem small_ofP {l : List P3} (h : Small l) (i : Nat) : Small (ofP l i) := fun p hp => h p (mem_ofP hp).1
theorem key_ofP {l : List P3} {H : Int} (h : ∀ p ∈ l, inB p H = true) (i : Nat) : ∀ p ∈ ofP l i, keyB p.2.1 = true := fun p hp => by
  have := h p (mem_ofP hp).1
  simp only [inB, decide_eq_true_eq] at this
  simp only [keyB, decide_eq_true_eq]; omega
theorem keys_ofP {l : List P3} (hpw : l.Pairwise (fun p q => sameB p q = false)) (i : Nat) : (ofP l i).Pairwise (fun p q => p.2.1 ≠ q.2.1) := by
  have h1 : (ofP l i).Pairwise (fun p q => sameB p q = false) := hpw.filter _
  refine h1.imp_of_mem ?_
  intro p q hp hq hs e
  have : sameB p q = true := by simp only [sameB, decide_eq_true_eq]; exact ⟨by rw [(mem_ofP hp).2, (mem_ofP hq).2], e⟩
  rw [this] at hs
  cases hs

/-- What is done leaves sums what they may be. -/
theorem right_doM {S : List S4} {l : List P3} {H : Int} (hS : RightM S) (hl : wrong l H = 0) : RightM (doM S l) := by
  obtain ⟨_, _, hin, hpw⟩ := wrong_ok hl
  unfold doM
  split
  · rename_i h0
    intro s hs
    obtain ⟨k, hk, rfl⟩ := List.mem_iff_getElem.1 hs
    have hk' : k < S.length := by rw [doneFrom_len] at hk; exact hk
    rw [doneFrom_get l 0 S k hk' hk]
    have hf := errFrom_zero.1 h0 k hk'
    exact (fits_back (hS _ (List.getElem_mem hk')) (key_ofP hin _) (keys_ofP hpw _) hf).1
  · exact hS

/-- Two deeds that have no key of a house in common. -/
def Apart (a b : List P3) : Prop := ∀ p ∈ a, ∀ q ∈ b, sameB p q = false
theorem Apart.symm {a b : List P3} (h : Apart a b) : Apart b a := fun q hq p hp => by
  have := h p hp q hq
  simp only [sameB, decide_eq_false_iff_not] at this ⊢
  exact fun ⟨x, y⟩ => this ⟨x.symm, y.symm⟩
theorem apart_fits {a b : List P3} {H K : Int} (ha : wrong a H = 0) (hb : wrong b K = 0) (h : Apart a b) (s : S4) (i : Nat) : fitsB (doB s (ofP a i)) (ofP b i) = fitsB s (ofP b i) := by
  obtain ⟨_, _, hina, _⟩ := wrong_ok ha
  obtain ⟨_, _, hinb, _⟩ := wrong_ok hb
  refine fitsB_congr fun q hq => ?_
  refine sget_doB_none (key_ofP hinb i q hq) fun p hp e => ?_
  have := h p (mem_ofP hp).1 q (mem_ofP hq).1
  have h2 : sameB p q = true := by simp only [sameB, decide_eq_true_eq]; exact ⟨by rw [(mem_ofP hp).2, (mem_ofP hq).2], e⟩
  rw [h2] at this
  cases this
theorem apart_err {a b : List P3} {H K : Int} (ha : wrong a H = 0) (hb : wrong b K = 0) (h : Apart a b) (S : List S4) : errM (doM S a) b = errM S b := by
  unfold doM
  split
  · unfold errM
    refine errFrom_congr (doneFrom_len _ _ _) fun k h1 h2 => ?_
    rw [doneFrom_get a 0 S k h2 h1, Nat.zero_add]
    exact apart_fits ha hb h _ _
  · rfl
theorem doB_swap (s : S4) (a b : List P3) : doB (doB s a) b = doB (doB s b) a := by
  induction a generalizing s with
  | nil => rfl
  | cons p t ih =>
    rw [doB_cons, doB_cons, doB_do1, ih]
theorem done_swap (a b : List P3) : ∀ (i : Nat) (S : List S4), doneFrom b i (doneFrom a i S) = doneFrom a i (doneFrom b i S)
  | _, [] => rfl
  | i, s :: t => by simp only [doneFrom]; rw [done_swap a b (i + 1) t, doB_swap]
theorem apart_do {a b : List P3} {H K : Int} (ha : wrong a H = 0) (hb : wrong b K = 0) (h : Apart a b) (S : List S4) : doM (doM S a) b = doM (doM S b) a := by
  have e1 := apart_err ha hb h S
  have e2 := apart_err hb ha h.symm S
  by_cases c1 : errM S a = 0
  · by_cases c2 : errM S b = 0
    · have d1 : doM S a = doneFrom a 0 S := if_pos c1
      have d2 : doM S b = doneFrom b 0 S := if_pos c2
      rw [d1] at e1 ⊢
      rw [d2] at e2 ⊢
      unfold doM
      rw [if_pos (e1.trans c2), if_pos (e2.trans c1)]
      exact done_swap _ _ _ _
    · have d2 : doM S b = S := if_neg c2
      rw [d2]
      unfold doM at e1 ⊢
      rw [if_pos c1] at e1 ⊢
      rw [if_neg (by rw [e1]; exact c2)]
  · have d1 : doM S a = S := if_neg c1
    rw [d1]
    by_cases c2 : errM S b = 0
    · have d2 : doM S b = doneFrom b 0 S := if_pos c2
      rw [d2] at e2
      have d3 : doM (doneFrom b 0 S) a = doneFrom b 0 S := if_neg (by rw [e2]; exact c1)
      rw [d2, d3]
    · have d2 : doM S b = S := if_neg c2
      rw [d2, d1]

/-- What parts give, and take, together. -/
theorem sum4_do1 {s : S4} {p : P3} (h : keyB p.2.1 = true) : sum4 (do1 s p) = sum4 s + p.2.2 := by
  unfold do1
  rw [if_pos h]
  obtain ⟨s0, s1, s2, s3⟩ := s
  rcases keyB_iff.1 h with e | e | e | e <;> (rw [e]; simp [sadd, sum4]; omega)
theorem sum4_doB {s : S4} : ∀ {l : List P3}, (∀ p ∈ l, keyB p.2.1 = true) → sum4 (doB s l) = sum4 s + sumN l
  | [], _ => by simp [doB, sumN]
  | p :: t, h => by
    rw [doB_cons, sum4_do1 (h p (by simp)), sum4_doB (fun q hq => h q (by simp [hq]))]
    simp only [sumN, List.map_cons, List.sum_cons]; omega
/-- The parts of the houses from i on, n of them. -/
def sumsOf (l : List P3) : Nat → Nat → Int
  | _, 0 => 0
  | i, n + 1 => sumN (ofP l i) + sumsOf l (i + 1) n
theorem sumsOf_cons (p : P3) (l : List P3) : ∀ (n i : Nat), sumsOf (p :: l) i n = (if (i : Int) ≤ p.1 ∧ p.1 < (i : Int) + n then p.2.2 else 0) + sumsOf l i n
  | 0, i => by simp only [sumsOf]; rw [if_neg (by omega)]; rfl
  | n + 1, i => by
    simp only [sumsOf]
    rw [sumsOf_cons p l n (i + 1)]
    by_cases h : p.1 = (i : Int)
    · have e : ofP (p :: l) i = p :: ofP l i := by simp [ofP, h]
      rw [e, if_neg (by omega), if_pos (by omega)]
      simp only [sumN, List.map_cons, List.sum_cons]; omega
    · have e : ofP (p :: l) i = ofP l i := by simp [ofP, h]
      rw [e]
      by_cases h2 : ((i + 1 : Nat) : Int) ≤ p.1 ∧ p.1 < ((i + 1 : Nat) : Int) + n
      · rw [if_pos h2, if_pos (by omega)]; omega
      · rw [if_neg h2, if_neg (by omega)]; omega
theorem sumsOf_all : ∀ {l : List P3} {n : Nat}, (∀ p ∈ l, 0 ≤ p.1 ∧ p.1 < (n : Int)) → sumsOf l 0 n = sumN l
  | [], n, _ => by
    have : ∀ n i, sumsOf [] i n = 0 := by
      intro n
      induction n with
      | zero => intro i; rfl
      | succ n ih => intro i; simp only [sumsOf]; rw [ih]; rfl
    rw [this]; rfl
  | p :: t, n, h => by
    rw [sumsOf_cons, sumsOf_all (fun q hq => h q (by simp [hq])), if_pos (by have := h p (by simp); omega)]
    simp only [sumN, List.map_cons, List.sum_cons]
theorem total_done {l : List P3} (hk : ∀ i, ∀ p ∈ ofP l i, keyB p.2.1 = true) : ∀ (i : Nat) (S : List S4), totalB (doneFrom l i S) = totalB S + sumsOf l i S.length
  | _, [] => by simp [doneFrom, totalB, sumsOf]
  | i, s :: t => by
    have ih := total_done hk (i + 1) t
    simp only [totalB, doneFrom, List.map_cons, List.sum_cons, List.length_cons, sumsOf] at *
    rw [ih, sum4_doB (hk i)]; omega
theorem total_even {S : List S4} {l : List P3} (hl : wrong l S.length = 0) (he : errM S l = 0) : totalB (doM S l) = totalB S + sumN l := by
  obtain ⟨_, _, hin, _⟩ := wrong_ok hl
  unfold doM
  rw [if_pos he, total_done (fun i => key_ofP hin i) 0 S, sumsOf_all (fun p hp => by
    have := hin p hp
    simp only [inB, decide_eq_true_eq] at this
    omega)]
theorem part_even {S : List S4} {l : List P3} (hl : wrong l S.length = 0) (he : errM S l = 0) {p : P3} (hp : p ∈ l) {i : Nat} (hi : p.1 = (i : Int)) (h1 : i < S.length) (h2 : i < (doM S l).length) :
    sget (doM S l)[i] p.2.1 = sget S[i] p.2.1 + p.2.2 ∧ 0 ≤ sget S[i] p.2.1 + p.2.2 := by
  obtain ⟨_, _, hin, hpw⟩ := wrong_ok hl
  have hmem : p ∈ ofP l i := by unfold ofP; exact List.mem_filter.2 ⟨hp, by simpa using hi⟩
  have hk := key_ofP hin i p hmem
  have hf := errFrom_zero.1 he i h1
  rw [Nat.zero_add] at hf
  have hd : doM S l = doneFrom l 0 S := if_pos he
  have e : (doM S l)[i] = doB S[i] (ofP l i) := by
    have := doneFrom_get l 0 S i h1 (by rw [doneFrom_len]; exact h1)
    rw [Nat.zero_add] at this
    rw [← this]
    simp only [hd]
  rw [e, sget_doB_mem (keys_ofP hpw i) p hmem hk]
  exact ⟨rfl, (fitsB_zero.1 hf p hmem hk).1⟩

theorem sum4_bound {s : S4} (h : rightS s = true) : 0 ≤ sum4 s ∧ sum4 s ≤ 4194304 := by
  simp only [rightS, decide_eq_true_eq] at h
  simp only [sum4]; omega
theorem sget_in {s : S4} {k : Int} (h : rightS s = true) (hk : keyB k = true) : 0 ≤ sget s k ∧ sget s k ≤ 1048576 := rightS_iff.1 h k hk
theorem allM_len : ∀ (L : List (List P3)) (S : List S4), (allM S L).length = S.length
  | [], _ => rfl
  | l :: t, S => by simp only [allM]; rw [allM_len t, doM_len]
theorem errsM_len : ∀ (L : List (List P3)) (S : List S4), (errsM S L).length = L.length
  | [], _ => rfl
  | l :: t, S => by simp only [errsM, List.length_cons]; rw [errsM_len t]
theorem allM_append : ∀ (L : List (List P3)) (S : List S4) (l : List P3), allM S (L ++ [l]) = doM (allM S L) l
  | [], _, _ => rfl
  | _ :: t, S, l => by simp only [List.cons_append, allM]; rw [allM_append t]
theorem errsM_append : ∀ (L : List (List P3)) (S : List S4) (l : List P3), errsM S (L ++ [l]) = errsM S L ++ [errM (allM S L) l]
  | [], _, _ => rfl
  | _ :: t, S, l => by simp only [List.cons_append, errsM, allM]; rw [errsM_append t]
theorem allM_take {L : List (List P3)} {k : Nat} (h : k < L.length) (S : List S4) : allM S (L.take (k + 1)) = doM (allM S (L.take k)) L[k] := by rw [take_snoc h, allM_append]
theorem errsM_take {L : List (List P3)} {k : Nat} (h : k < L.length) (S : List S4) : errsM S (L.take (k + 1)) = errsM S (L.take k) ++ [errM (allM S (L.take k)) L[k]] := by rw [take_snoc h, errsM_append]
theorem right_allM {H : Int} : ∀ {L : List (List P3)} {S : List S4}, RightM S → (∀ l ∈ L, wrong l H = 0) → RightM (allM S L)
  | [], _, hS, _ => hS
  | l :: t, S, hS, hL => right_allM (S := doM S l) (L := t) (right_doM hS (hL l (by simp))) (fun m hm => hL m (by simp [hm]))

end Go.Proofs.Ytmihdckjoodjeab
