/- Plain functions over texts: how parts are written, and read, with no word of the program. -/
import Derived.Test.YtkmohigbedocgaaDoorPure
import Derived.Lib.ItoaNum
import Derived.Lib.AtoiAllCases
import Derived.Lib.Join
namespace Go.Proofs.YtkmohigbedocgaaDoor
open Go.RowKit

def isDig (c : UInt8) : Bool := decide (48 ≤ c.toNat ∧ c.toNat ≤ 57)
def valB (c : UInt8) : Int := (c.toNat : Int) - 48

/-- One word of a text. -/
def signB (n : Int) : List UInt8 := if n < 0 then Lib.itoa n else 43 :: Lib.itoa n
def wordB (p : P3) : List UInt8 := Lib.itoa p.1 ++ [46] ++ Lib.itoa p.2.1 ++ signB p.2.2
def printB (l : List P3) : List UInt8 := Lib.join (l.map wordB) [32]

/-- The words of a text. -/
def splitB : List UInt8 → List (List UInt8)
  | [] => [[]]
  | c :: t => if c = 32 then [] :: splitB t else match splitB t with
    | [] => [[c]]
    | x :: r => (c :: x) :: r

theorem splitB_ne (s : List UInt8) : splitB s ≠ [] := by
  cases s with
  | nil => simp [splitB]
  | cons c t =>
    unfold splitB
    split
    · simp
    · split <;> simp

theorem splitB_last : ∀ (s : List UInt8), (∀ c ∈ s, c ≠ 32) → splitB s = [s]
  | [], _ => rfl
  | c :: t, h => by
    have h1 : c ≠ 32 := h c (by simp)
    rw [splitB, if_neg h1, splitB_last t (fun d hd => h d (by simp [hd]))]
theorem splitB_cut : ∀ (x t : List UInt8), (∀ c ∈ x, c ≠ 32) → splitB (x ++ 32 :: t) = x :: splitB t
  | [], t, _ => by simp [splitB]
  | c :: x, t, h => by
    have h1 : c ≠ 32 := h c (by simp)
    rw [List.cons_append, splitB, if_neg h1, splitB_cut x t (fun d hd => h d (by simp [hd]))]

theorem join_cons2 (x y : List UInt8) (r : List (List UInt8)) : Lib.join (x :: y :: r) [32] = x ++ 32 :: Lib.join (y :: r) [32] := by
  rw [Lib.join_cons, Lib.join_cons]; simp [Lib.joinTail]

theorem split_join : ∀ (xs : List (List UInt8)), xs ≠ [] → (∀ x ∈ xs, ∀ c ∈ x, c ≠ 32) → splitB (Lib.join xs [32]) = xs
  | [], h, _ => absurd rfl h
  | [x], _, h => by rw [Lib.join_one]; exact splitB_last x (h x (by simp))
  | x :: y :: r, _, h => by
    rw [join_cons2, splitB_cut x _ (h x (by simp)), split_join (y :: r) (by simp) (fun z hz => h z (by simp at hz ⊢; right; exact hz))]
theorem join_split : ∀ (s : List UInt8), Lib.join (splitB s) [32] = s
  | [] => by simp [splitB, Lib.join_one]
  | c :: t => by
    have ih := join_split t
    unfold splitB
    split
    · rename_i h
      subst h
      cases hs : splitB t with
      | nil => exact absurd hs (splitB_ne t)
      | cons x r => rw [join_cons2, ← hs, ih]; rfl
    · cases hs : splitB t with
      | nil => exact absurd hs (splitB_ne t)
      | cons x r =>
        rw [hs] at ih
        dsimp only
        cases r with
        | nil => rw [Lib.join_one] at ih ⊢; rw [ih]
        | cons y r => rw [join_cons2] at ih ⊢; rw [List.cons_append, ih]

/-- The number that a text is written for. -/
def numB (x : List UInt8) : Option Int := match Lib.atoiAll x with
  | .ok n => if signB n = x then some n else none
  | _ => none
def readB : List UInt8 → Option P3
  | h :: d :: k :: r => if isDig h = true ∧ d = 46 ∧ isDig k = true then (numB r).map fun n => (valB h, valB k, n) else none
  | _ => none
def readAll : List (List UInt8) → Option (List P3)
  | [] => some []
  | x :: t => match readB x, readAll t with
    | some p, some r => some (p :: r)
    | _, _ => none

theorem digit_isDig {d : Nat} (h : d < 10) : isDig (UInt8.ofNat (48 + d)) = true := by
  have : (UInt8.ofNat (48 + d)).toNat = 48 + d := by simp [UInt8.toNat_ofNat']; omega
  unfold isDig; rw [this]; simp; omega
theorem digit_val {d : Nat} (h : d < 10) : valB (UInt8.ofNat (48 + d)) = d := by
  have : (UInt8.ofNat (48 + d)).toNat = 48 + d := by simp [UInt8.toNat_ofNat']; omega
  unfold valB; rw [this]; omega
theorem dig_back {c : UInt8} (h : isDig c = true) : UInt8.ofNat (48 + (valB c).toNat) = c ∧ 0 ≤ valB c ∧ valB c < 10 := by
  simp only [isDig, decide_eq_true_eq] at h
  have e : 48 + (valB c).toNat = c.toNat := by simp only [valB]; omega
  refine ⟨?_, by simp only [valB]; omega, by simp only [valB]; omega⟩
  rw [e]; simp
theorem dig_ne {c : UInt8} (h : isDig c = true) (n : UInt8) (hn : n.toNat < 48) : c ≠ n := by
  simp only [isDig, decide_eq_true_eq] at h
  intro e; subst e; omega

theorem decDigits_dig (u : Nat) : ∀ c ∈ Lib.decDigits u, isDig c = true := by
  induction u using Nat.strongRecOn with
  | _ u ih =>
    intro c hc
    rw [Lib.decDigits] at hc
    split at hc
    · rename_i h
      rw [List.mem_singleton.1 hc]; exact digit_isDig h
    · rename_i h
      rcases List.mem_append.1 hc with h1 | h1
      · exact ih (u / 10) (by omega) c h1
      · rw [List.mem_singleton.1 h1]; exact digit_isDig (by omega)
theorem decDigits_ne (u : Nat) : Lib.decDigits u ≠ [] := by
  rw [Lib.decDigits]; split <;> simp
theorem head_append {α : Type} (a b : List α) (h : a ≠ []) : (a ++ b).head? = a.head? := by
  cases a with
  | nil => exact absurd rfl h
  | cons x t => rfl
theorem decDigits_head (u : Nat) : (Lib.decDigits u).head? = some 48 → u = 0 := by
  induction u using Nat.strongRecOn with
  | _ u ih =>
    rw [Lib.decDigits]
    split
    · rename_i h
      intro hh
      have e : UInt8.ofNat (48 + u) = 48 := Option.some.inj hh
      have := digit_val h
      rw [e] at this; simp [valB] at this; omega
    · rename_i h
      intro hh
      have h1 := ih (u / 10) (by omega) (by rw [head_append _ _ (decDigits_ne _)] at hh; exact hh)
      omega
theorem parseU_append : ∀ (a b : List UInt8) (acc m : Nat), Lib.parseUint10 acc a = .ok m → Lib.parseUint10 acc (a ++ b) = Lib.parseUint10 m b
  | [], b, acc, m, h => by
    simp only [Lib.parseUint10] at h
    injection h with h
    subst h
    rfl
  | c :: r, b, acc, m, h => by
    simp only [List.cons_append, Lib.parseUint10] at h ⊢
    split at h
    · rename_i h1
      rw [if_pos h1]
      split at h
      · cases h
      · rename_i h2
        rw [if_neg h2]
        split at h
        · cases h
        · rename_i h3
          rw [if_neg h3]
          exact parseU_append r b _ m h
    · cases h
theorem digit_nat {d : Nat} (h : d < 10) : (UInt8.ofNat (48 + d)).toNat = 48 + d := by simp [UInt8.toNat_ofNat']; omega
theorem parseU_dec (u : Nat) (hu : u < 18446744073709551616) : Lib.parseUint10 0 (Lib.decDigits u) = .ok u := by
  induction u using Nat.strongRecOn with
  | _ u ih =>
    rw [Lib.decDigits]
    split
    · rename_i h
      simp only [Lib.parseUint10, digit_nat h]
      rw [if_pos (by omega), if_neg (by omega), if_neg (by omega)]
      congr 1
      omega
    · rename_i h
      rw [parseU_append _ _ 0 _ (ih (u / 10) (by omega) (by omega))]
      have h1 : u % 10 < 10 := by omega
      simp only [Lib.parseUint10, digit_nat h1]
      rw [if_pos (by omega), if_neg (by omega), if_neg (by omega)]
      congr 1
      omega
theorem parseMag_dec (u : Nat) (hu : u < 18446744073709551616) : Lib.parseMag (Lib.decDigits u) = .ok u := by
  unfold Lib.parseMag
  rw [if_neg (decDigits_ne u), parseU_dec u hu]
theorem dec_cons (u : Nat) : ∃ c r, Lib.decDigits u = c :: r ∧ isDig c = true := by
  have h1 := decDigits_ne u
  have h2 := decDigits_dig u
  cases h : Lib.decDigits u with
  | nil => exact absurd h h1
  | cons c r => exact ⟨c, r, rfl, h2 c (by rw [h]; simp)⟩

/-- What is written of a number of Go's int is read as that number. -/
theorem atoi_itoa (n : Int) (h0 : -9223372036854775808 ≤ n) (h1 : n ≤ 9223372036854775807) : Lib.atoiAll (Lib.itoa n) = .ok n := by
  unfold Lib.itoa
  split
  · rename_i h
    rw [Lib.atoiAll_minus, parseMag_dec _ (by omega)]
    simp only [Lib.signed]
    rw [if_neg (by omega)]
    congr 1
    omega
  · rename_i h
    obtain ⟨c, r, hc, hd⟩ := dec_cons n.toNat
    have hm := parseMag_dec n.toNat (by omega)
    rw [hc] at hm ⊢
    simp only [isDig, decide_eq_true_eq] at hd
    rw [Lib.atoiAll_plain c r (by omega) (by omega), hm]
    simp only [Lib.signless]
    rw [if_neg (by omega)]
    congr 1
    omega

theorem itoa_small {n : Int} (h0 : 0 ≤ n) (h1 : n < 10) : Lib.itoa n = [UInt8.ofNat (48 + n.toNat)] := by
  unfold Lib.itoa
  rw [if_neg (by omega), Lib.decDigits_one (by omega)]
theorem signB_eq (n : Int) : signB n = (if n < 0 then 45 else 43) :: Lib.decDigits n.natAbs := by
  unfold signB Lib.itoa
  split
  · rfl
  · rename_i h
    rw [show n.toNat = n.natAbs by omega]

theorem word_eq {p : P3} (h : inB p 3 = true) : wordB p = UInt8.ofNat (48 + p.1.toNat) :: 46 :: UInt8.ofNat (48 + p.2.1.toNat) :: (if p.2.2 < 0 then 45 else 43) :: Lib.decDigits p.2.2.natAbs := by
  simp only [inB, decide_eq_true_eq] at h
  unfold wordB
  rw [itoa_small (by omega) (by omega), itoa_small (by omega) (by omega), signB_eq]
  rfl

theorem atoi_sign (n : Int) (h0 : -9223372036854775808 ≤ n) (h1 : n ≤ 9223372036854775807) : Lib.atoiAll (signB n) = .ok n := by
  unfold signB
  split
  · exact atoi_itoa n h0 h1
  · rename_i h
    unfold Lib.itoa
    rw [if_neg h, Lib.atoiAll_plus, parseMag_dec _ (by omega)]
    simp only [Lib.signless]
    rw [if_neg (by omega)]
    congr 1
    omega
theorem num_sign (n : Int) (h0 : -9223372036854775808 ≤ n) (h1 : n ≤ 9223372036854775807) : numB (signB n) = some n := by
  unfold numB
  rw [atoi_sign n h0 h1]
  exact if_pos rfl
theorem num_back {x : List UInt8} {n : Int} (h : numB x = some n) : signB n = x ∧ -9223372036854775808 ≤ n ∧ n ≤ 9223372036854775807 := by
  unfold numB at h
  rcases hn : Lib.atoiAll x with m | _ | _
  · rw [hn] at h
    by_cases hq : signB m = x
    · simp only [if_pos hq, Option.some.injEq] at h
      subst h
      exact ⟨hq, Lib.atoiAll_bounds hn⟩
    · simp only [if_neg hq] at h
      cases h
  · rw [hn] at h; cases h
  · rw [hn] at h; cases h

/-- A part that a word can tell. -/
def Told (p : P3) : Prop := (0 ≤ p.1 ∧ p.1 < 10) ∧ (0 ≤ p.2.1 ∧ p.2.1 < 10) ∧ -9223372036854775808 ≤ p.2.2 ∧ p.2.2 ≤ 9223372036854775807
theorem word_told {p : P3} (h : Told p) : wordB p = UInt8.ofNat (48 + p.1.toNat) :: 46 :: UInt8.ofNat (48 + p.2.1.toNat) :: (if p.2.2 < 0 then 45 else 43) :: Lib.decDigits p.2.2.natAbs := by
  obtain ⟨⟨a1, a2⟩, ⟨b1, b2⟩, _⟩ := h
  unfold wordB
  rw [itoa_small a1 a2, itoa_small b1 b2, signB_eq]
  rfl
/-- What is written is read again. -/
theorem read_told {p : P3} (h : Told p) : readB (wordB p) = some p := by
  obtain ⟨a, k, n⟩ := p
  obtain ⟨⟨a1, a2⟩, ⟨b1, b2⟩, c1, c2⟩ := h
  simp only at *
  have e : wordB (a, k, n) = UInt8.ofNat (48 + a.toNat) :: 46 :: UInt8.ofNat (48 + k.toNat) :: signB n := by
    unfold wordB
    simp only
    rw [itoa_small a1 a2, itoa_small b1 b2]
    rfl
  have d1 : a.toNat < 10 := by omega
  have d2 : k.toNat < 10 := by omega
  rw [e]
  simp only [readB]
  rw [if_pos ⟨digit_isDig d1, trivial, digit_isDig d2⟩, num_sign n c1 c2]
  simp only [Option.map_some, digit_val d1, digit_val d2]
  congr 1
  exact Prod.ext (by simp; omega) (Prod.ext (by simp; omega) rfl)
/-- What is read is as it would be written. -/
theorem read_back {x : List UInt8} {p : P3} (hr : readB x = some p) : wordB p = x ∧ Told p := by
  match x, hr with
  | a :: d :: k :: r, hr =>
    simp only [readB] at hr
    split at hr
    · rename_i hc
      obtain ⟨ha, hd, hk⟩ := hc
      obtain ⟨b1, b2, b3⟩ := dig_back ha
      obtain ⟨k1, k2, k3⟩ := dig_back hk
      obtain ⟨n, hm, rfl⟩ := Option.map_eq_some_iff.1 hr
      obtain ⟨q1, q2, q3⟩ := num_back hm
      refine ⟨?_, ⟨b2, b3⟩, ⟨k2, k3⟩, q2, q3⟩
      unfold wordB
      simp only
      rw [itoa_small b2 b3, itoa_small k2 k3, b1, k1, q1, hd]
      rfl
    · cases hr
theorem told_in {p : P3} (h : inB p 3 = true) : Told p := by
  simp only [inB, decide_eq_true_eq] at h
  exact ⟨by omega, by omega, by omega, by omega⟩
theorem read_word {p : P3} (h : inB p 3 = true) : readB (wordB p) = some p := read_told (told_in h)
theorem word_read {x : List UInt8} {p : P3} (hr : readB x = some p) (_ : inB p 3 = true) : wordB p = x := (read_back hr).1

theorem word_noblank {p : P3} (h : inB p 3 = true) : ∀ c ∈ wordB p, c ≠ 32 := by
  rw [word_eq h]
  simp only [inB, decide_eq_true_eq] at h
  intro c hc
  simp only [List.mem_cons] at hc
  rcases hc with rfl | rfl | rfl | rfl | hc
  · exact dig_ne (digit_isDig (by omega)) 32 (by decide)
  · decide
  · exact dig_ne (digit_isDig (by omega)) 32 (by decide)
  · split <;> decide
  · exact dig_ne (decDigits_dig _ c hc) 32 (by decide)

theorem readAll_snoc : ∀ (xs : List (List UInt8)) (x : List UInt8), readAll (xs ++ [x]) = match readAll xs, readB x with | some r, some p => some (r ++ [p]) | _, _ => none
  | [], x => by
    simp only [List.nil_append, readAll]
    cases readB x <;> rfl
  | y :: t, x => by
    simp only [List.cons_append, readAll, readAll_snoc t x]
    cases readB y <;> cases readAll t <;> cases readB x <;> rfl
theorem readAll_none {x : List UInt8} (h : readB x = none) (t : List (List UInt8)) : ∀ (pre : List (List UInt8)), readAll (pre ++ x :: t) = none
  | [] => by simp only [List.nil_append, readAll, h]
  | y :: r => by
    simp only [List.cons_append, readAll, readAll_none h t r]
    cases readB y <;> rfl
theorem readAll_words : ∀ (l : List P3), (∀ p ∈ l, inB p 3 = true) → readAll (l.map wordB) = some l
  | [], _ => rfl
  | p :: t, h => by
    simp only [List.map_cons, readAll]
    rw [read_word (h p (by simp)), readAll_words t (fun q hq => h q (by simp [hq]))]
theorem words_readAll : ∀ (xs : List (List UInt8)) (l : List P3), readAll xs = some l → (∀ p ∈ l, inB p 3 = true) → l.map wordB = xs
  | [], l, h, _ => by simp only [readAll, Option.some.injEq] at h; subst h; rfl
  | x :: t, l, h, hin => by
    simp only [readAll] at h
    cases hx : readB x with
    | none => rw [hx] at h; cases h
    | some p =>
      cases ht : readAll t with
      | none => rw [hx, ht] at h; cases h
      | some r =>
        rw [hx, ht] at h
        simp only [Option.some.injEq] at h
        subst h
        rw [List.map_cons, word_read hx (hin p (by simp)), words_readAll t r ht (fun q hq => hin q (by simp [hq]))]
theorem readAll_length : ∀ (xs : List (List UInt8)) (l : List P3), readAll xs = some l → l.length = xs.length
  | [], l, h => by simp only [readAll, Option.some.injEq] at h; subst h; rfl
  | x :: t, l, h => by
    simp only [readAll] at h
    cases hx : readB x with
    | none => rw [hx] at h; cases h
    | some p =>
      cases ht : readAll t with
      | none => rw [hx, ht] at h; cases h
      | some r =>
        rw [hx, ht] at h
        simp only [Option.some.injEq] at h
        subst h
        simp [readAll_length t r ht]

theorem wrongFrom_in (H : Int) : ∀ (seen l : List P3), wrongFrom H seen l = 0 → ∀ p ∈ l, inB p H = true
  | seen, [], _, p, hp => by cases hp
  | seen, q :: t, h, p, hp => by
    simp only [wrongFrom] at h
    split at h
    · rename_i hq
      split at h
      · cases h
      · rcases List.mem_cons.1 hp with rfl | hp
        · exact hq
        · exact wrongFrom_in H _ t h p hp
    · cases h
theorem wrong_right {l : List P3} {H : Int} (h : wrong l H = 0) : 1 ≤ l.length ∧ l.length ≤ 4 ∧ ∀ p ∈ l, inB p H = true := by
  unfold wrong at h
  split at h
  · cases h
  · exact ⟨by omega, by omega, wrongFrom_in H _ _ h⟩

/-- What a text comes to: its error, and its parts. -/
def parseB (s : List UInt8) : Int × List P3 :=
  match readAll (splitB s) with
  | none => (2, [])
  | some l => if wrong (l.take 5) 3 = 0 then (0, l.take 5) else (wrong (l.take 5) 3, [])

theorem parse_print {l : List P3} (h : wrong l 3 = 0) : parseB (printB l) = (0, l) := by
  obtain ⟨h1, h4, hin⟩ := wrong_right h
  unfold parseB printB
  rw [split_join _ (by intro e; rw [List.map_eq_nil_iff] at e; subst e; simp at h1) (fun x hx c hc => by
    obtain ⟨p, hp, rfl⟩ := List.mem_map.1 hx
    exact word_noblank (hin p hp) c hc), readAll_words l hin]
  simp only
  rw [List.take_of_length_le (by omega), if_pos h]
theorem print_parse {s : List UInt8} {l : List P3} (h : parseB s = (0, l)) : printB l = s ∧ wrong l 3 = 0 := by
  unfold parseB at h
  split at h
  · cases h
  · rename_i l' hl
    split at h
    · rename_i hw
      simp only [Prod.mk.injEq, true_and] at h
      obtain ⟨h1, h4, hin⟩ := wrong_right hw
      have hlen : l'.length ≤ 4 := by
        simp only [List.length_take] at h4; omega
      rw [List.take_of_length_le (by omega)] at h hw hin
      subst h
      refine ⟨?_, hw⟩
      unfold printB
      rw [words_readAll _ _ hl hin, join_split]
    · rename_i hw
      simp only [Prod.mk.injEq] at h
      exact absurd h.1 hw
theorem parse_err {s : List UInt8} (h : (parseB s).1 ≠ 0) : (parseB s).2 = [] := by
  unfold parseB at *
  split
  · rfl
  · rename_i l hl
    rw [hl] at h
    simp only at h
    split
    · rename_i hw
      rw [if_pos hw] at h
      exact absurd rfl h
    · rfl
theorem print_inj {a b : List P3} (ha : wrong a 3 = 0) (hb : wrong b 3 = 0) : printB a = printB b ↔ a = b := by
  constructor
  · intro h
    have h1 := parse_print ha
    have h2 := parse_print hb
    rw [h, h2] at h1
    exact (Prod.mk.inj h1).2.symm
  · intro h; rw [h]

end Go.Proofs.YtkmohigbedocgaaDoor
