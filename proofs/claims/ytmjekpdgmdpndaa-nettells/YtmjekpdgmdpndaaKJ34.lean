/- Several texts in one: What the laws of chapter 9 ask of nets: each function's answer as it lies, and the closed fact; What the law NetTwice does, called at whatever net and place. -/
import Derived.Test.YtmjekpdgmdpndaaKNet2
import Derived.Test.YtmjekpdgmdpndaaKSameN
import Derived.Test.YtmjekpdgmdpndaaKJ33
namespace Go.Proofs.Ytmjekpdgmdpndaa
open Go.RowKit
attribute [local go_sem ↓] Go.wp_at_zero Go.wp_at_succ

/-- A net in memory. -/
abbrev NF (w : World) (a : Option Addr) (n : Nat) (X : List XN) (bs : List (List Nat)) : Prop := NetF (fun _ => False) w a n X bs
/-- A net of bytes, neither too long. -/
structure OkN (bs : List (List Nat)) : Prop where
  len : bs.length ≤ 100000
  byt : ∀ b ∈ bs, Byt b
  few : ∀ b ∈ bs, b.length ≤ 140737488355328
theorem OkN.nil : OkN [] := ⟨by simp, (fun b hb => by cases hb), fun b hb => by cases hb⟩
theorem NetF.few {R : Nat → Prop} {w : World} {a : Option Addr} {n : Nat} {X : List XN} {bs : List (List Nat)} (H : NetF R w a n X bs) (ok : OkN bs) : X.length ≤ 1000000 ∧ ∀ x ∈ X, x.2.length ≤ 140737488355328 := by
  have h := H.says
  subst h
  refine ⟨?_, fun x hx => ok.few _ (List.mem_map.2 ⟨x, hx, rfl⟩)⟩
  have h1 := ok.len
  rw [List.length_map] at h1
  omega
theorem NetF.cnt {R : Nat → Prop} {w : World} {a : Option Addr} {n : Nat} {X : List XN} {bs : List (List Nat)} (H : NetF R w a n X bs) : n = bs.length := by
  rw [← H.says, List.length_map]
  exact H.n
theorem OkN.sub {bs cs : List (List Nat)} (h : OkN bs) (hl : cs.length ≤ 100000) (hs : ∀ c ∈ cs, c ∈ bs) : OkN cs := ⟨hl, fun c hc => h.byt c (hs c hc), fun c hc => h.few c (hs c hc)⟩
theorem OkN.take {bs : List (List Nat)} (h : OkN bs) (i : Int) : OkN (takeN bs i).1 := by
  unfold takeN
  split
  · exact h.sub (by rw [List.length_eraseIdx]; have := h.len; split <;> omega) (fun c hc => List.mem_of_mem_eraseIdx hc)
  · exact h
theorem OkN.twice {bs : List (List Nat)} (h : OkN bs) (i : Int) : OkN (twiceN bs i).1 := by
  unfold twiceN
  split
  · split
    · refine h.sub ?_ (fun c hc => ?_)
      · have h1 : ((bs[i.toNat]?).toList).length ≤ 1 := by cases bs[i.toNat]? <;> simp
        rw [List.length_append]; omega
      · rcases List.mem_append.1 hc with hc | hc
        · exact hc
        · rw [Option.mem_toList] at hc
          exact List.mem_of_getElem? hc
    · exact h
  · exact h

theorem lOwn (a : Option Addr) (n cap : Nat) (X : List XN) (bs : List (List Nat)) (w : World) (H : NF w a n X bs) (ok : OkN bs) :
    Calls Try.prog 15 #[.slice a n cap] w fun e w' => ∃ a' c' X', e = .returned (.slice a' bs.length c') ∧ NF w' a' bs.length X' bs ∧ Below w.heap.size w w' := by
  refine (netOwn_any _ a n cap X bs w H (H.few ok).1 (H.few ok).2).mono ?_
  rintro e w' ⟨v, rfl, h1, h2⟩
  obtain ⟨a', n', c', X', rfl, hn, hF⟩ := h1.f (R := fun _ => False) (fun b hb => hb.elim)
  subst hn
  exact ⟨a', c', X', rfl, hF, h2⟩
theorem lTake (a : Option Addr) (n cap : Nat) (X : List XN) (bs : List (List Nat)) (i : Int) (w : World) (H : NF w a n X bs) (ok : OkN bs) :
    Calls Try.prog 16 #[.slice a n cap, .int .i64 i] w fun e w' => ∃ a' c' X' pa pc, e = .returned (.tuple #[.slice a' (takeN bs i).1.length c', .agg #[.int .i64 (takeN bs i).2.1.1, .int .i64 (takeN bs i).2.1.2.1, .int .i64 (takeN bs i).2.1.2.2.1, .slice pa (takeN bs i).2.1.2.2.2.length pc], .int .i64 (takeN bs i).2.2]) ∧ NF w' a' (takeN bs i).1.length X' (takeN bs i).1 ∧ PartsAt w' pa (takeN bs i).2.1.2.2.2 ∧ Below w.heap.size w w' := by
  refine (netTake_any _ a n cap X bs i w H (H.few ok).1 (H.few ok).2 ok.byt).mono ?_
  rintro e w' ⟨v, pa, pc, rfl, h1, h3, h2⟩
  obtain ⟨a', n', c', X', rfl, hn, hF⟩ := h1.f (R := fun _ => False) (fun b hb => hb.elim)
  subst hn
  exact ⟨a', c', X', pa, pc, rfl, hF, h3.at, h2⟩
theorem lSend (na ma : Option Addr) (nn nc mn mc : Nat) (X : List XN) (bs : List (List Nat)) (U : List XM) (ms : List Q4) (w : World) (H : NF w na nn X bs) (ok : OkN bs) (hM : MsgsF (fun _ => False) w ma mn U ms) (h64 : ∀ m ∈ ms, Int64M m) :
    Calls Try.prog 21 #[.slice na nn nc, .slice ma mn mc] w fun e w' => ∃ a' c' X', e = .returned (.slice a' (sendN bs ms).length c') ∧ NF w' a' (sendN bs ms).length X' (sendN bs ms) ∧ Below w.heap.size w w' := by
  refine (netSend_any _ na ma nn nc mn mc X bs U ms w H hM (H.few ok).1 (H.few ok).2 h64).mono ?_
  rintro e w' ⟨v, rfl, h1, h2⟩
  obtain ⟨a', n', c', X', rfl, hn, hF⟩ := h1.f (R := fun _ => False) (fun b hb => hb.elim)
  subst hn
  exact ⟨a', c', X', rfl, hF, h2⟩
theorem lSame (a b : Option Addr) (n m c d : Nat) (X Y : List XN) (bs cs : List (List Nat)) (w : World) (H : NF w a n X bs) (K : NF w b m Y cs) (ok : OkN bs) (oc : OkN cs) :
    Calls Try.prog 14 #[.slice a n c, .slice b m d] w fun e w' => e = .returned (.bool (decide (bs = cs))) ∧ Below w.heap.size w w' :=
  sameNet_any _ _ a b n m c d X Y bs cs w H K ok.byt oc.byt (H.few ok).1

/-- The bytes of right messages. -/
theorem OkN.send {bs : List (List Nat)} (h : OkN bs) {ms : List Q4} (hm : ∀ m ∈ ms, wrongM m = 0) : OkN (sendN bs ms) := by
  have hlen : (sendN bs ms).length ≤ 100000 := by
    unfold sendN
    rw [List.length_append, List.length_take]
    have := h.len
    omega
  refine ⟨hlen, fun c hc => ?_, fun c hc => ?_⟩
  · rcases List.mem_append.1 hc with hc | hc
    · exact h.byt c hc
    · obtain ⟨m, h1, rfl⟩ := List.mem_map.1 (List.mem_of_mem_take hc)
      exact bytes_byt (hm m h1)
  · rcases List.mem_append.1 hc with hc | hc
    · exact h.few c hc
    · obtain ⟨m, h1, rfl⟩ := List.mem_map.1 (List.mem_of_mem_take hc)
      have h4 := (wrongM_ok (hm m h1)).2.2.2.1
      have h5 := partsBytes_len m.2.2.2
      have h6 := (numB_len m.2.1).2
      have h7 := (numB_len m.2.2.1).2
      have h8 := (numB_len (m.2.2.2.length : Int)).2
      have h9 : (tailB (bodyB m)).length = 2 := by simp [tailB]
      unfold bytesB bodyB at *
      simp only [List.length_append, List.length_cons] at *
      omega
theorem fine_nums' {h : Int} {l : List P3} (hf : Fine h l) : Nums l := fun p hp => by
  have := hf p hp
  omega
theorem int64_ok {m : Q4} (h : wrongM m = 0) : Int64M m := by
  obtain ⟨h1, h2, h3, h4, h5⟩ := wrongM_ok h
  exact ⟨by omega, by omega, fine_nums' h5, by omega⟩

theorem RowAt.blk {α : Type} {size : Nat} {enc : α → List Value} {w : World} {B : Nat} {xs : List α} {cs : Array Value} {t : TypeId} (he : ∀ x, (enc x).length = size) (h : Blk w B cs t) (hx : cs.toList = flat enc xs) : RowAt size enc w (some ⟨B, 0, none⟩) xs := by
  refine Or.inr ⟨B, 0, rfl, h.lt, fun i hi j u hu => ?_⟩
  have hj : j < size := by
    rcases Nat.lt_or_ge j size with h' | h'
    · exact h'
    · rw [List.getElem?_eq_none (by rw [he]; exact h')] at hu; cases hu
  rw [Nat.zero_add, h.cell, ← Array.getElem?_toList, hx, flat_get he xs i hi j hj]
  exact hu
theorem wrong_same9 (k d h : Int) (l : List P3) : wrongMB k d h l = wrongM (k, d, h, l) := by
  unfold wrongMB
  show _ = (if k < 1 ∨ 7 < k then 1 else if d < 0 ∨ 1344 ≤ d ∨ h < 0 ∨ 3 ≤ h then 3 else if k = 1 then (if wrong l 3 = 0 then (if (ofB l h).length < l.length then 3 else 0) else wrong l 3) else if 0 < l.length then 5 else 0)
  by_cases h1 : k < 1 ∨ 7 < k
  · rw [if_pos h1, if_pos h1]
  · rw [if_neg h1, if_neg h1]
    by_cases h2 : d < 0 ∨ 1343 < d ∨ h < 0 ∨ 2 < h
    · rw [if_pos h2, if_pos (show d < 0 ∨ 1344 ≤ d ∨ h < 0 ∨ 3 ≤ h by omega)]
    · rw [if_neg h2, if_neg (show ¬ (d < 0 ∨ 1344 ≤ d ∨ h < 0 ∨ 3 ≤ h) by omega)]
      by_cases h3 : 1 < k
      · rw [if_pos h3, if_neg (show ¬ k = 1 by omega)]
        by_cases h4 : l.length = 0
        · rw [if_pos h4, if_neg (show ¬ 0 < l.length by omega)]
        · rw [if_neg h4, if_pos (show 0 < l.length by omega)]
      · rw [if_neg h3, if_pos (show k = 1 by omega)]
        by_cases h4 : wrong l 3 = 0
        · rw [if_pos h4, if_pos h4]
          have : ((l.any fun p => !decide (p.1 = h)) = true) ↔ (ofB l h).length < l.length := by
            have hle : (ofB l h).length ≤ l.length := List.length_filter_le _ _
            constructor
            · intro ha
              rcases Nat.lt_or_ge (ofB l h).length l.length with h' | h'
              · exact h'
              · have he : (ofB l h).length = l.length := by omega
                rw [List.any_eq_true] at ha
                obtain ⟨p, hp, hn⟩ := ha
                have := List.length_filter_eq_length_iff.1 he p hp
                simp at hn this
                exact absurd this hn
            · intro hlt
              rcases Bool.eq_false_or_eq_true (l.any fun p => !decide (p.1 = h)) with h' | h'
              · exact h'
              · rw [List.any_eq_false] at h'
                have : (ofB l h).length = l.length := List.length_filter_eq_length_iff.2 (fun p hp => by have := h' p hp; simpa using this)
                omega
          by_cases h5 : (l.any fun p => !decide (p.1 = h)) = true
          · rw [if_pos h5, if_pos (this.1 h5)]
          · rw [if_neg h5, if_neg (fun h => h5 (this.2 h))]
        · rw [if_neg h4, if_neg h4]
end Go.Proofs.Ytmjekpdgmdpndaa

namespace Go.Proofs.Ytmjekpdgmdpndaa
open Go.RowKit
attribute [local go_sem ↓] Go.wp_at_zero Go.wp_at_succ

theorem readB_len (b : List Nat) : (readB b).1.2.2.2.length ≤ 4 := by
  unfold readB
  by_cases h1 : b.length < 3
  · rw [if_pos h1]; decide
  · rw [if_neg h1]
    by_cases h2 : sumB (b.take (b.length - 2)) = endB b
    · rw [if_pos h2]
      generalize messageB (b.take (b.length - 2)) = r
      show (if (if r.2 = 0 then wrongM r.1 else r.2) = 0 then (r.1, (0 : Int)) else (m0, if r.2 = 0 then wrongM r.1 else r.2)).1.2.2.2.length ≤ 4
      by_cases h3 : (if r.2 = 0 then wrongM r.1 else r.2) = 0
      · rw [if_pos h3]
        by_cases h4 : r.2 = 0
        · rw [if_pos h4] at h3
          exact (wrongM_ok h3).2.2.2.1
        · rw [if_neg h4] at h3
          exact absurd h3 h4
      · rw [if_neg h3]; exact Nat.zero_le _
    · rw [if_neg h2]; decide
theorem take_at {bs : List (List Nat)} {k : Nat} (h : k < bs.length) : takeN bs ((k : Nat) : Int) = (bs.eraseIdx k, (readB bs[k]).1, (readB bs[k]).2) := by
  unfold takeN
  rw [if_pos (by omega)]
  simp [h]
theorem twice_at {bs : List (List Nat)} {k : Nat} (h : k < bs.length) (h24 : bs.length < 24) : twiceN bs ((k : Nat) : Int) = (bs ++ [bs[k]], 0) := by
  unfold twiceN
  rw [if_pos (by omega), if_pos h24]
  simp [h]
end Go.Proofs.Ytmjekpdgmdpndaa
