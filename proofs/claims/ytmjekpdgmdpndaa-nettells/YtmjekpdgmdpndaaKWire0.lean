/- Plain functions of messages as bytes, and what holds of them: there, and back; one byte turned is found. -/
import Derived.Test.YtmjekpdgmdpndaaKJ03
import Derived.Test.YtmjekpdgmdpndaaKJ12
namespace Go.Proofs.Ytmjekpdgmdpndaa
open Go.RowKit

/-- A message: kind, deed, house, parts. -/
abbrev M4 := Int × Int × Int × List P3
/-- All are bytes. -/
def Byt (b : List Nat) : Prop := ∀ c ∈ b, c < 256

def sumStep (s c : Nat) : Nat := (s * 263 + c + 1) % 65521
def sumB (b : List Nat) : Nat := b.foldl sumStep 5

theorem sumStep_lt (s c : Nat) : sumStep s c < 65521 := Nat.mod_lt _ (by decide)
theorem sumFold_lt : ∀ (b : List Nat) (s : Nat), s < 65521 → b.foldl sumStep s < 65521
  | [], _, h => h
  | _ :: t, _, _ => sumFold_lt t _ (sumStep_lt _ _)
theorem sumB_lt (b : List Nat) : sumB b < 65521 := sumFold_lt b 5 (by decide)
theorem sumB_snoc (b : List Nat) (c : Nat) : sumB (b ++ [c]) = sumStep (sumB b) c := by simp [sumB]
def foldN (n : Int) : Nat := if n < 0 then (-1 - n).toNat * 2 + 1 else n.toNat * 2
def unfoldN (u : Nat) : Int := if u % 2 = 1 then -1 - ((u / 2 : Nat) : Int) else ((u / 2 : Nat) : Int)
def numGo : Nat → Nat → List Nat
  | 0, u => [u]
  | f + 1, u => if u < 128 then [u] else (u % 128 + 128) :: numGo f (u / 128)
def numB (n : Int) : List Nat := numGo 9 (foldN n)
theorem numGo_small (f : Nat) {u : Nat} (h : u < 128) : numGo f u = [u] := by
  cases f with
  | zero => rfl
  | succ f => simp [numGo, h]
theorem numGo_more (f : Nat) {u : Nat} (h : ¬ u < 128) : numGo (f + 1) u = (u % 128 + 128) :: numGo f (u / 128) := by simp [numGo, h]
theorem numGo_len : ∀ (f u : Nat), 1 ≤ (numGo f u).length ∧ (numGo f u).length ≤ f + 1
  | 0, _ => by simp [numGo]
  | f + 1, u => by
    have ih := numGo_len f (u / 128)
    by_cases h : u < 128
    · rw [numGo_small _ h]; simp
    · rw [numGo_more _ h]; simp; omega
theorem numB_len (n : Int) : 1 ≤ (numB n).length ∧ (numB n).length ≤ 10 := numGo_len 9 _
theorem numGo_byt : ∀ (f u : Nat), u < 128 ^ f * 128 → Byt (numGo f u)
  | 0, u, h => by intro c hc; simp [numGo] at hc; omega
  | f + 1, u, h => by
    by_cases h' : u < 128
    · rw [numGo_small _ h']; intro c hc; simp at hc; omega
    · rw [numGo_more _ h']
      intro c hc
      rcases List.mem_cons.1 hc with rfl | hc
      · omega
      · exact numGo_byt f (u / 128) (by rw [Nat.pow_succ] at h; omega) c hc
theorem fold_lt64 {n : Int} (h1 : -9223372036854775808 ≤ n) (h2 : n ≤ 9223372036854775807) : foldN n < 18446744073709551616 := by
  unfold foldN; split <;> omega
theorem numB_byt {n : Int} (h1 : -9223372036854775808 ≤ n) (h2 : n ≤ 9223372036854775807) : Byt (numB n) := numGo_byt 9 _ (by have := fold_lt64 h1 h2; omega)

def getGo : Nat → Nat → List Nat → Int × Nat × Int
  | _, _, [] => (0, 0, 8)
  | k, u, c :: t => if k = 6 then (0, 0, 3) else if 128 ≤ c then getGo (k + 1) (u + c % 128 * 128 ^ k) t
    else if c = 0 ∧ 0 < k then (0, 0, 2) else (unfoldN (u + c % 128 * 128 ^ k), k + 1, 0)
def getB (b : List Nat) : Int × Nat × Int := getGo 0 0 b

/-- One number is taken, if nothing was wrong till now. -/
def stepB (st : List Nat × Int) : Int × List Nat × Int :=
  if st.2 = 0 then ((getB st.1).1, st.1.drop (getB st.1).2.1, (getB st.1).2.2) else (0, st)
def partsGo (h : Int) : Nat → List Nat × Int → List P3 × List Nat × Int
  | 0, st => ([], st)
  | m + 1, st => if st.2 = 0 then ((h, (stepB st).1, (stepB (stepB st).2).1) :: (partsGo h m (stepB (stepB st).2).2).1, (partsGo h m (stepB (stepB st).2).2).2) else ([], st)
def partsBytes (l : List P3) : List Nat := l.flatMap fun p => numB p.2.1 ++ numB p.2.2
/-- Numbers that fit. -/
def Fine (h : Int) (l : List P3) : Prop := ∀ p ∈ l, p.1 = h ∧ (0 ≤ p.2.1 ∧ p.2.1 < 4) ∧ -1048576 ≤ p.2.2 ∧ p.2.2 ≤ 1048576
def many5 (s : Int × List Nat × Int) : Int := if s.2.2 = 0 ∧ (s.1 < 0 ∨ 4 < s.1) then 5 else s.2.2
def left2 (s : List Nat × Int) : Int := if s.2 = 0 ∧ 0 < s.1.length then 2 else s.2
def messageB (b : List Nat) : M4 × Int :=
  let s1 := stepB (b.drop 1, 0)
  let s2 := stepB s1.2
  let s3 := stepB s2.2
  let ps := partsGo s2.1 s3.1.toNat (s3.2.1, many5 s3)
  (((b.getD 0 0 : Nat), s1.1, s2.1, ps.1), left2 ps.2)
def wrongM (m : M4) : Int :=
  if m.1 < 1 ∨ 7 < m.1 then 1 else if m.2.1 < 0 ∨ 1344 ≤ m.2.1 ∨ m.2.2.1 < 0 ∨ 3 ≤ m.2.2.1 then 3
  else if m.1 = 1 then (if wrong m.2.2.2 3 = 0 then (if (ofB m.2.2.2 m.2.2.1).length < m.2.2.2.length then 3 else 0) else wrong m.2.2.2 3)
  else if 0 < m.2.2.2.length then 5 else 0
def bodyB (m : M4) : List Nat := (m.1 % 256).toNat :: (numB m.2.1 ++ (numB m.2.2.1 ++ (numB m.2.2.2.length ++ partsBytes m.2.2.2)))
def tailB (b : List Nat) : List Nat := [sumB b / 256, sumB b % 256]
def bytesB (m : M4) : List Nat := bodyB m ++ tailB (bodyB m)
def m0 : M4 := (0, 0, 0, [])
def endB (b : List Nat) : Nat := b.getD (b.length - 2) 0 * 256 + b.getD (b.length - 1) 0
def readB (b : List Nat) : M4 × Int :=
  if b.length < 3 then (m0, 8) else if sumB (b.take (b.length - 2)) = endB b then
    (let r := messageB (b.take (b.length - 2)); let e := if r.2 = 0 then wrongM r.1 else r.2; if e = 0 then (r.1, 0) else (m0, e)) else (m0, 7)

theorem wrongM_ok {m : M4} (h : wrongM m = 0) : (1 ≤ m.1 ∧ m.1 ≤ 7) ∧ (0 ≤ m.2.1 ∧ m.2.1 < 1344) ∧ (0 ≤ m.2.2.1 ∧ m.2.2.1 < 3) ∧ m.2.2.2.length ≤ 4 ∧ Fine m.2.2.1 m.2.2.2 := by
  unfold wrongM at h
  split at h
  · omega
  split at h
  · omega
  split at h
  · split at h
    · rename_i hw
      split at h
      · omega
      · rename_i hl
        obtain ⟨_, h4, hin, _⟩ := wrong_ok hw
        refine ⟨by omega, by omega, by omega, h4, fun p hp => ?_⟩
        have hall : ∀ q ∈ m.2.2.2, decide (q.1 = m.2.2.1) = true := by
          have : (ofB m.2.2.2 m.2.2.1).length = m.2.2.2.length := by
            have := List.length_filter_le (fun p : P3 => decide (p.1 = m.2.2.1)) m.2.2.2
            simp only [ofB] at hl ⊢
            omega
          exact List.length_filter_eq_length_iff.1 this
        have h1 := hall p hp
        have h2 := hin p hp
        simp only [inB, decide_eq_true_eq] at h1 h2
        exact ⟨h1, ⟨by omega, by omega⟩, by omega, by omega⟩
    · omega
  · split at h
    · omega
    · rename_i hn
      have : m.2.2.2 = [] := List.eq_nil_of_length_eq_zero (by omega)
      refine ⟨by omega, by omega, by omega, by omega, fun p hp => ?_⟩
      rw [this] at hp
      cases hp

theorem body_byt {m : M4} (h : wrongM m = 0) : Byt (bodyB m) := by
  obtain ⟨h1, h2, h3, h4, h5⟩ := wrongM_ok h
  intro c hc
  simp only [bodyB, List.mem_cons, List.mem_append, partsBytes, List.mem_flatMap] at hc
  rcases hc with rfl | hc | hc | hc | ⟨p, hp, hc | hc⟩
  · omega
  · exact numB_byt (by omega) (by omega) c hc
  · exact numB_byt (by omega) (by omega) c hc
  · exact numB_byt (by omega) (by omega) c hc
  · have := h5 p hp; exact numB_byt (by omega) (by omega) c hc
  · have := h5 p hp; exact numB_byt (by omega) (by omega) c hc
theorem bytes_byt {m : M4} (h : wrongM m = 0) : Byt (bytesB m) := by
  intro c hc
  have := sumB_lt (bodyB m)
  simp only [bytesB, tailB, List.mem_append, List.mem_cons, List.not_mem_nil, or_false] at hc
  rcases hc with hc | rfl | rfl
  · exact body_byt h c hc
  · omega
  · omega

end Go.Proofs.Ytmjekpdgmdpndaa
