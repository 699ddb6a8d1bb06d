/- Lists of houses' sums in memory: how they lie, slices that own them, stores into them. -/
import Derived.Test.YtmihdckjoodjeabPart4
import Derived.Test.YtmihdckjoodjeabOwnP
import Derived.Test.YtmihdckjoodjeabBase
import Derived.Test.YtmihdckjoodjeabModel0
import Derived.Laws.OwnMore
namespace Go.Proofs.Ytmihdckjoodjeab
open Go.RowKit

/-- The sums S lie in memory from the address on. -/
def SumsL (w : World) (a : Option Addr) (S : List S4) : Prop :=
  S = [] ∨ ∃ b o, a = some ⟨b, o, none⟩ ∧ b < w.heap.size ∧ ∀ i (h : i < S.length),
    w.cell? ⟨b, o + i * 4, none⟩ = some (.int .i64 S[i].1) ∧ w.cell? ⟨b, o + i * 4 + 1, none⟩ = some (.int .i64 S[i].2.1) ∧ w.cell? ⟨b, o + i * 4 + 2, none⟩ = some (.int .i64 S[i].2.2.1) ∧ w.cell? ⟨b, o + i * 4 + 3, none⟩ = some (.int .i64 S[i].2.2.2)

theorem SumsL.below {w w' : World} {a : Option Addr} {S : List S4} (h : SumsL w a S) (hb : Below w.heap.size w w') : SumsL w' a S := by
  rcases h with rfl | ⟨b, o, rfl, hlt, hc⟩
  · exact Or.inl rfl
  · refine Or.inr ⟨b, o, rfl, Nat.lt_of_lt_of_le hlt hb.size, fun i hi => ?_⟩
    obtain ⟨h1, h2, h3, h4⟩ := hc i hi
    obtain ⟨hcc, _⟩ := bcell hb
    exact ⟨(hcc _ _ hlt).trans h1, (hcc _ _ hlt).trans h2, (hcc _ _ hlt).trans h3, (hcc _ _ hlt).trans h4⟩

def cells4L (S : List S4) : List Value := S.flatMap fun s => [.int .i64 s.1, .int .i64 s.2.1, .int .i64 s.2.2.1, .int .i64 s.2.2.2]
theorem cells4L_len (S : List S4) : (cells4L S).length = S.length * 4 := by
  induction S with
  | nil => rfl
  | cons p t ih => simp only [cells4L, List.flatMap_cons, List.length_append, List.length_cons, List.length_nil] at *; omega
theorem cells4L_get : ∀ (S : List S4) (i : Nat) (h : i < S.length), (cells4L S)[i * 4]? = some (.int .i64 S[i].1) ∧ (cells4L S)[i * 4 + 1]? = some (.int .i64 S[i].2.1) ∧ (cells4L S)[i * 4 + 2]? = some (.int .i64 S[i].2.2.1) ∧ (cells4L S)[i * 4 + 3]? = some (.int .i64 S[i].2.2.2)
  | p :: t, 0, _ => by simp [cells4L]
  | p :: t, i + 1, h => by
    have ih := cells4L_get t i (by simpa using h)
    have e : cells4L (p :: t) = [.int .i64 p.1, .int .i64 p.2.1, .int .i64 p.2.2.1, .int .i64 p.2.2.2] ++ cells4L t := by simp [cells4L]
    rw [e]
    refine ⟨?_, ?_, ?_, ?_⟩
    · rw [List.getElem?_append_right (by simp; omega)]; simpa [show (i + 1) * 4 - 4 = i * 4 by omega] using ih.1
    · rw [List.getElem?_append_right (by simp; omega)]; simpa [show (i + 1) * 4 + 1 - 4 = i * 4 + 1 by omega] using ih.2.1
    · rw [List.getElem?_append_right (by simp; omega)]; simpa [show (i + 1) * 4 + 2 - 4 = i * 4 + 2 by omega] using ih.2.2.1
    · rw [List.getElem?_append_right (by simp; omega)]; simpa [show (i + 1) * 4 + 3 - 4 = i * 4 + 3 by omega] using ih.2.2.2
theorem cells4L_one (S : List S4) : ∀ u ∈ cells4L S, u.oneCell' = true := by
  intro u hu
  simp only [cells4L, List.mem_flatMap] at hu
  obtain ⟨p, _, hp⟩ := hu
  simp at hp
  rcases hp with rfl | rfl | rfl | rfl <;> rfl
theorem cells4L_set : ∀ (S : List S4) (i : Nat) (_ : i < S.length) (s : S4), ((((cells4L S).set (i * 4) (.int .i64 s.1)).set (i * 4 + 1) (.int .i64 s.2.1)).set (i * 4 + 2) (.int .i64 s.2.2.1)).set (i * 4 + 3) (.int .i64 s.2.2.2) = cells4L (S.set i s)
  | p :: t, 0, _, s => by simp [cells4L]
  | p :: t, i + 1, h, s => by
    have ih := cells4L_set t i (by simpa using h) s
    have e : ∀ S : List S4, cells4L (p :: S) = .int .i64 p.1 :: .int .i64 p.2.1 :: .int .i64 p.2.2.1 :: .int .i64 p.2.2.2 :: cells4L S := by intro S; simp [cells4L]
    rw [List.set_cons_succ, e, e, show (i + 1) * 4 = i * 4 + 1 + 1 + 1 + 1 by omega]
    simp only [List.set_cons_succ]
    rw [ih]

/-- The value v owns the sums S, in blocks from base on. -/
def OwnM (w : World) (base : Nat) (v : Value) (S : List S4) : Prop := w.ownsRow base 29 4 v S.length (cells4L S)
theorem OwnM.below {w w' : World} {base : Nat} {v : Value} {S : List S4} (h : OwnM w base v S) {B : Nat} (hb : Below B w w') (hB : w.heap.size ≤ B) : OwnM w' base v S := ownsRow_below h hb hB
/-- What is owned lies in memory. -/
theorem OwnM.sums {w : World} {base : Nat} {v : Value} {S : List S4} (h : OwnM w base v S) : ∃ a cap, v = .slice a S.length cap ∧ SumsL w a S ∧ S.length ≤ cap := by
  rcases h.2 with ⟨hv, h0⟩ | ⟨g, cap, cur, hv, hg, hh, hcap, _, hsz, htake⟩
  · exact ⟨none, 0, by rw [hv, h0], Or.inl (List.eq_nil_of_length_eq_zero h0), by omega⟩
  · have hh' := h
    unfold OwnM at hh'
    rw [hv] at hh'
    refine ⟨_, cap, hv, Or.inr ⟨g, 0, rfl, ?_, fun i hi => ?_⟩, hcap⟩
    · rcases Nat.lt_or_ge g w.heap.size with h' | h'
      · exact h'
      · rw [Array.getElem?_eq_none h'] at hh; cases hh
    · obtain ⟨e0, e1, e2, e3⟩ := cells4L_get S i hi
      rw [Nat.zero_add]
      exact ⟨(hh'.cellAt _ (by omega)).trans e0, (hh'.cellAt _ (by omega)).trans e1, (hh'.cellAt _ (by omega)).trans e2, (hh'.cellAt _ (by omega)).trans e3⟩
theorem src_of_sums {w : World} {a : Option Addr} {S : List S4} (h : SumsL w a S) : SrcAt w a S.length 4 (cells4L S) := by
  refine ⟨cells4L_len S, ?_⟩
  rcases h with rfl | ⟨b, o, rfl, hlt, hc⟩
  · exact Or.inl rfl
  · refine Or.inr ⟨_, rfl, fun j u hj => ?_⟩
    have hadd : (⟨b, o, none⟩ : Addr).add j = ⟨b, o + j, none⟩ := by unfold Addr.add; split <;> simp_all
    rw [hadd]
    have hlt : j < S.length * 4 := by
      rcases Nat.lt_or_ge j (S.length * 4) with h' | h'
      · exact h'
      · rw [List.getElem?_eq_none (by rw [cells4L_len]; exact h')] at hj; cases hj
    have hi : j / 4 < S.length := by omega
    obtain ⟨e0, e1, e2, e3⟩ := cells4L_get S (j / 4) hi
    obtain ⟨c0, c1, c2, c3⟩ := hc (j / 4) hi
    have hm : j = j / 4 * 4 ∨ j = j / 4 * 4 + 1 ∨ j = j / 4 * 4 + 2 ∨ j = j / 4 * 4 + 3 := by omega
    rcases hm with hm | hm | hm | hm
    · rw [hm] at hj ⊢; rw [e0] at hj; rw [← hj]; exact c0
    · rw [hm] at hj ⊢; rw [e1] at hj; rw [← hj, ← Nat.add_assoc]; exact c1
    · rw [hm] at hj ⊢; rw [e2] at hj; rw [← hj, ← Nat.add_assoc]; exact c2
    · rw [hm] at hj ⊢; rw [e3] at hj; rw [← hj, ← Nat.add_assoc]; exact c3
/-- Four cells stored into what is owned. -/
theorem OwnM.put {w : World} {base g cap n : Nat} {S : List S4} (h : OwnM w base (.slice (some ⟨g, 0, none⟩) n cap) S) (hn : n = S.length) {i : Nat} (hi : i < S.length) (s : S4) :
    OwnM ((((w.setCell ⟨g, i * 4, none⟩ (.int .i64 s.1)).setCell ⟨g, i * 4 + 1, none⟩ (.int .i64 s.2.1)).setCell ⟨g, i * 4 + 2, none⟩ (.int .i64 s.2.2.1)).setCell ⟨g, i * 4 + 3, none⟩ (.int .i64 s.2.2.2)) base (.slice (some ⟨g, 0, none⟩) n cap) (S.set i s) := by
  subst hn
  have h1 := (World.ownsRow.stored h (i * 4) (.int .i64 s.1)).1
  have h2 := (World.ownsRow.stored h1 (i * 4 + 1) (.int .i64 s.2.1)).1
  have h3 := (World.ownsRow.stored h2 (i * 4 + 2) (.int .i64 s.2.2.1)).1
  have h4 := (World.ownsRow.stored h3 (i * 4 + 3) (.int .i64 s.2.2.2)).1
  unfold OwnM
  rw [cells4L_set S i hi s] at h4
  simpa using h4
theorem infoSums : (Try.prog.info? 29).map (fun i => (i.zero, i.size, i.bytes)) = some (some (.agg #[.int .i64 0, .int .i64 0, .int .i64 0, .int .i64 0]), 4, 32) := by kernel_rfl

/-- 'append(v, x...)' where v owns nothing yet, or sums, and x lies in memory. -/
theorem wpList_append_sums {ops : Array Oper} {rest : List Oper} {o : Oper} {a : Act} {Q : Exit → Act → World → Prop} (w : World) (hgd : o.guard = none) (s x : Operand)
    (ho : o.op = .call { callee := .builtin .append, args := #[s, x], argTypes := #[22, 22] })
    (base : Nat) (v : Value) (S : List S4) (hs : a.eval s = v) (hown : OwnM w base v S) (ad : Option Addr) (m c : Nat) (T : List S4) (hx : a.eval x = .slice ad m c) (hm : m = T.length) (hsrc : SumsL w ad T)
    (hl : S.length + T.length ≤ 1000000) (hbase : base ≤ w.heap.size)
    (h : ∀ v' w', OwnM w' base v' (S ++ T) → w.grownBy w' v.ownBlock → (v'.ownBlock = v.ownBlock ∨ v'.ownBlock = some w.heap.size) → wpList Try.prog ops Q rest (a.put o.dst v') w') : wpList Try.prog ops Q (o :: rest) a w := by
  subst hm
  obtain ⟨i0, hi, hz0, hz1, hz2⟩ := info_parts infoSums
  refine wpList_append_any w hgd s x 22 ho base 29 i0 _ 4 32 Try.underlying22 hi hz0 hz1 hz2 rfl (by decide) v S.length (cells4L S) hs hown ad T.length c (cells4L T) hx (src_of_sums hsrc) (cells4L_one T) (by unfold maxLen; omega) (by omega) hbase ?_
  intro v' w' h1 h2 h3
  refine h v' w' ?_ h2 h3
  unfold OwnM
  have e : cells4L (S ++ T) = cells4L S ++ cells4L T := by simp [cells4L]
  rw [e, List.length_append]
  exact h1

end Go.Proofs.Ytmihdckjoodjeab
