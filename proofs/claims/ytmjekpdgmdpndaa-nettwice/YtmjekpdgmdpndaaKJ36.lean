/- Several texts in one: What the laws of chapter 9 ask of nets: each function's answer as it lies, and the closed fact; What the law NetTake does, called at whatever net and message. -/
import Derived.Test.YtmjekpdgmdpndaaKNet2
import Derived.Test.YtmjekpdgmdpndaaKSameN
import Derived.Test.YtmjekpdgmdpndaaKJ35
import Derived.Test.YtmjekpdgmdpndaaKHouseP
import Derived.Test.YtmjekpdgmdpndaaKJ07
import Derived.Test.YtmjekpdgmdpndaaKJ00
import Derived.Test.YtmjekpdgmdpndaaKJ01
import Derived.WalkSmall
namespace Go.Proofs.Ytmjekpdgmdpndaa
open Go.RowKit
attribute [local go_sem ↓] Go.wp_at_zero Go.wp_at_succ

/-- A net in memory. -/
abbrev NF (w : World) (a : Option Addr) (n : Nat) (X : List XN) (bs : List (List Nat)) : Prop := NetF (fun _ => False) w a n X bs
/-- A net of bytes, neither too long. -/
structure OkN (bs : List (List Nat)) : Prop where
  len : bs.length ≤ 100000
  byt : ∀ b ∈ bs, Byt b
  few : ∀ b ∈ bs, b.length ≤ 140737488355328
theorem OkN.nil : OkN [] := ⟨by simp, (fun b hb => by cases hb), fun b hb => by cases hb⟩
theorem NetF.few {R : Nat → Prop} {w : World} {a : Option Addr} {n : Nat} {X : List XN} {bs : List (List Nat)} (H : NetF R w a n X bs) (ok : OkN bs) : X.length ≤ 1000000 ∧ ∀ x ∈ X, x.2.length ≤ 140737488355328 := by
  have h := H.says
  subst h
  refine ⟨?_, fun x hx => ok.few _ (List.mem_map.2 ⟨x, hx, rfl⟩)⟩
  have h1 := ok.len
  rw [List.length_map] at h1
  omega
theorem NetF.cnt {R : Nat → Prop} {w : World} {a : Option Addr} {n : Nat} {X : List XN} {bs : List (List Nat)} (H : NetF R w a n X bs) : n = bs.length := by
  rw [← H.says, List.length_map]
  exact H.n
theorem OkN.sub {bs cs : List (List Nat)} (h : OkN bs) (hl : cs.length ≤ 100000) (hs : ∀ c ∈ cs, c ∈ bs) : OkN cs := ⟨hl, fun c hc => h.byt c (hs c hc), fun c hc => h.few c (hs c hc)⟩
theorem OkN.take {bs : List (List Nat)} (h : OkN bs) (i : Int) : OkN (takeN bs i).1 := by
  unfold takeN
  split
  · exact h.sub (by rw [List.length_eraseIdx]; have := h.len; split <;> omega) (fun c hc => List.mem_of_mem_eraseIdx hc)
  · exact h
theorem OkN.twice {bs : List (List Nat)} (h : OkN bs) (i : Int) : OkN (twiceN bs i).1 := by
  unfold twiceN
  split
  · split
    · refine h.sub ?_ (fun c hc => ?_)
      · have h1 : ((bs[i.toNat]?).toList).length ≤ 1 := by cases bs[i.toNat]? <;> simp
        rw [List.length_append]; omega
      · rcases List.mem_append.1 hc with hc | hc
        · exact hc
        · rw [Option.mem_toList] at hc
          exact List.mem_of_getElem? hc
    · exact h
  · exact h

theorem lOwn (a : Option Addr) (n cap : Nat) (X : List XN) (bs : List (List Nat)) (w : World) (H : NF w a n X bs) (ok : OkN bs) :
    Calls Try.prog 15 #[.slice a n cap] w fun e w' => ∃ a' c' X', e = .returned (.slice a' bs.length c') ∧ NF w' a' bs.length X' bs ∧ Below w.heap.size w w' := by
  refine (netOwn_any _ a n cap X bs w H (H.few ok).1 (H.few ok).2).mono ?_
  rintro e w' ⟨v, rfl, h1, h2⟩
  obtain ⟨a', n', c', X', rfl, hn, hF⟩ := h1.f (R := fun _ => False) (fun b hb => hb.elim)
  subst hn
  exact ⟨a', c', X', rfl, hF, h2⟩
theorem lTwice (a : Option Addr) (n cap : Nat) (X : List XN) (bs : List (List Nat)) (i : Int) (w : World) (H : NF w a n X bs) (ok : OkN bs) :
    Calls Try.prog 17 #[.slice a n cap, .int .i64 i] w fun e w' => ∃ a' c' X', e = .returned (.tuple #[.slice a' (twiceN bs i).1.length c', .int .i64 (twiceN bs i).2]) ∧ NF w' a' (twiceN bs i).1.length X' (twiceN bs i).1 ∧ Below w.heap.size w w' := by
  refine (netTwice_any _ a n cap X bs i w H (H.few ok).1 (H.few ok).2).mono ?_
  rintro e w' ⟨v, rfl, h1, h2⟩
  obtain ⟨a', n', c', X', rfl, hn, hF⟩ := h1.f (R := fun _ => False) (fun b hb => hb.elim)
  subst hn
  exact ⟨a', c', X', rfl, hF, h2⟩
theorem lTake (a : Option Addr) (n cap : Nat) (X : List XN) (bs : List (List Nat)) (i : Int) (w : World) (H : NF w a n X bs) (ok : OkN bs) :
    Calls Try.prog 16 #[.slice a n cap, .int .i64 i] w fun e w' => ∃ a' c' X' pa pc, e = .returned (.tuple #[.slice a' (takeN bs i).1.length c', .agg #[.int .i64 (takeN bs i).2.1.1, .int .i64 (takeN bs i).2.1.2.1, .int .i64 (takeN bs i).2.1.2.2.1, .slice pa (takeN bs i).2.1.2.2.2.length pc], .int .i64 (takeN bs i).2.2]) ∧ NF w' a' (takeN bs i).1.length X' (takeN bs i).1 ∧ PartsAt w' pa (takeN bs i).2.1.2.2.2 ∧ Below w.heap.size w w' := by
  refine (netTake_any _ a n cap X bs i w H (H.few ok).1 (H.few ok).2 ok.byt).mono ?_
  rintro e w' ⟨v, pa, pc, rfl, h1, h3, h2⟩
  obtain ⟨a', n', c', X', rfl, hn, hF⟩ := h1.f (R := fun _ => False) (fun b hb => hb.elim)
  subst hn
  exact ⟨a', c', X', pa, pc, rfl, hF, h3.at, h2⟩
theorem lSend (na ma : Option Addr) (nn nc mn mc : Nat) (X : List XN) (bs : List (List Nat)) (U : List XM) (ms : List Q4) (w : World) (H : NF w na nn X bs) (ok : OkN bs) (hM : MsgsF (fun _ => False) w ma mn U ms) (h64 : ∀ m ∈ ms, Int64M m) :
    Calls Try.prog 21 #[.slice na nn nc, .slice ma mn mc] w fun e w' => ∃ a' c' X', e = .returned (.slice a' (sendN bs ms).length c') ∧ NF w' a' (sendN bs ms).length X' (sendN bs ms) ∧ Below w.heap.size w w' := by
  refine (netSend_any _ na ma nn nc mn mc X bs U ms w H hM (H.few ok).1 (H.few ok).2 h64).mono ?_
  rintro e w' ⟨v, rfl, h1, h2⟩
  obtain ⟨a', n', c', X', rfl, hn, hF⟩ := h1.f (R := fun _ => False) (fun b hb => hb.elim)
  subst hn
  exact ⟨a', c', X', rfl, hF, h2⟩
theorem lSame (a b : Option Addr) (n m c d : Nat) (X Y : List XN) (bs cs : List (List Nat)) (w : World) (H : NF w a n X bs) (K : NF w b m Y cs) (ok : OkN bs) (oc : OkN cs) :
    Calls Try.prog 14 #[.slice a n c, .slice b m d] w fun e w' => e = .returned (.bool (decide (bs = cs))) ∧ Below w.heap.size w w' :=
  sameNet_any _ _ a b n m c d X Y bs cs w H K ok.byt oc.byt (H.few ok).1

/-- The bytes of right messages. -/
theorem OkN.send {bs : List (List Nat)} (h : OkN bs) {ms : List Q4} (hm : ∀ m ∈ ms, wrongM m = 0) : OkN (sendN bs ms) := by
  have hlen : (sendN bs ms).length ≤ 100000 := by
    unfold sendN
    rw [List.length_append, List.length_take]
    have := h.len
    omega
  refine ⟨hlen, fun c hc => ?_, fun c hc => ?_⟩
  · rcases List.mem_append.1 hc with hc | hc
    · exact h.byt c hc
    · obtain ⟨m, h1, rfl⟩ := List.mem_map.1 (List.mem_of_mem_take hc)
      exact bytes_byt (hm m h1)
  · rcases List.mem_append.1 hc with hc | hc
    · exact h.few c hc
    · obtain ⟨m, h1, rfl⟩ := List.mem_map.1 (List.mem_of_mem_take hc)
      have h4 := (wrongM_ok (hm m h1)).2.2.2.1
      have h5 := partsBytes_len m.2.2.2
      have h6 := (numB_len m.2.1).2
      have h7 := (numB_len m.2.2.1).2
      have h8 := (numB_len (m.2.2.2.length : Int)).2
      have h9 : (tailB (bodyB m)).length = 2 := by simp [tailB]
      unfold bytesB bodyB at *
      simp only [List.length_append, List.length_cons] at *
      omega
theorem fine_nums' {h : Int} {l : List P3} (hf : Fine h l) : Nums l := fun p hp => by
  have := hf p hp
  omega
theorem int64_ok {m : Q4} (h : wrongM m = 0) : Int64M m := by
  obtain ⟨h1, h2, h3, h4, h5⟩ := wrongM_ok h
  exact ⟨by omega, by omega, fine_nums' h5, by omega⟩

theorem RowAt.blk {α : Type} {size : Nat} {enc : α → List Value} {w : World} {B : Nat} {xs : List α} {cs : Array Value} {t : TypeId} (he : ∀ x, (enc x).length = size) (h : Blk w B cs t) (hx : cs.toList = flat enc xs) : RowAt size enc w (some ⟨B, 0, none⟩) xs := by
  refine Or.inr ⟨B, 0, rfl, h.lt, fun i hi j u hu => ?_⟩
  have hj : j < size := by
    rcases Nat.lt_or_ge j size with h' | h'
    · exact h'
    · rw [List.getElem?_eq_none (by rw [he]; exact h')] at hu; cases hu
  rw [Nat.zero_add, h.cell, ← Array.getElem?_toList, hx, flat_get he xs i hi j hj]
  exact hu
abbrev msA : List Q4 := [(2, 70, 0, []), (3, 71, 0, [])]
theorem liveA : (sendN [] msA).length = 2 ∧ (twiceN (sendN [] msA) 0).2 = 0 ∧ (twiceN (sendN [] msA) 0).1.length = 3 ∧ (takeN (twiceN (sendN [] msA) 0).1 1).1.length = 2 ∧ (takeN (twiceN (sendN [] msA) 0).1 1).2.1.2.1 = 71 ∧ (takeN (twiceN (sendN [] msA) 0).1 1).2.2 = 0 := by decide +kernel
theorem rightA : ∀ m ∈ msA, wrongM m = 0 := by decide +kernel

set_option maxRecDepth 20000 in
set_option maxHeartbeats 1000000 in
theorem alive9_any (w : World) : Calls Try.prog 23 #[] w fun e w' => e = .returned (.bool true) ∧ Below w.heap.size w w' := by
  have HL : Hid _ := liveA
  have ok0 := OkN.send OkN.nil rightA
  have ok1 := ok0.twice 0
  have hM : MsgsF (fun _ => False) (w.alloc (.cells #[.int .i64 2, .int .i64 70, .int .i64 0, .slice none 0 0, .int .i64 3, .int .i64 71, .int .i64 0, .slice none 0 0] 43)) (some ⟨w.heap.size, 0, none⟩) 2 [(2, 70, 0, (none, 0), []), (3, 71, 0, (none, 0), [])] msA :=
    ⟨rfl, RowAt.blk lenM (Blk.new _ _ _) rfl, Or.inr (fun _ _ h => h), rfl, fun x hx => by
      simp only [List.mem_cons, List.not_mem_nil, or_false] at hx
      rcases hx with rfl | rfl
      · exact PartsR.nil _ _ _
      · exact PartsR.nil _ _ _⟩
  go_enter Try.func23, Try.ntmps23
  go_wp2_with fail
  have hb0 := below1 w (.cells #[.int .i64 2, .int .i64 70, .int .i64 0, .slice none 0 0, .int .i64 3, .int .i64 71, .int .i64 0, .slice none 0 0] 43)
  generalize w.alloc (.cells #[.int .i64 2, .int .i64 70, .int .i64 0, .slice none 0 0, .int .i64 3, .int .i64 71, .int .i64 0, .slice none 0 0] 43) = W at *
  refine (lSend none (some ⟨w.heap.size, 0, none⟩) 0 0 2 2 [] [] _ msA W (NetF.nil _ _ _) OkN.nil hM (fun m hm => int64_ok (rightA m hm))).mono ?_
  rintro e w1 ⟨a1, c1, X1, rfl, H1, hb1⟩
  generalize sendN [] msA = L at *
  have hB1 : Below w.heap.size w w1 := hb0.trans (hb1.mono hb0.size)
  clear hM hb0 hb1
  obtain ⟨q1, q2, q3, q4, q5, q6⟩ := HL.out
  clear HL
  rw [q1]
  rw [q1] at H1
  go_wp2_with fail
  refine (lTwice a1 2 c1 X1 L 0 w1 H1 ok0).mono ?_
  rintro e w2 ⟨a2, c2, X2, rfl, H2, hb2⟩
  rw [q2, q3]
  rw [q3] at H2
  have H1' := H1.below hb2
  have hB2 : Below w.heap.size w w2 := hB1.trans (hb2.mono hB1.size)
  clear H1 hb2 q1 q2 q3
  generalize twiceN L 0 = T at *
  go_wp2_with fail
  refine (lTake a2 3 c2 X2 T.1 1 w2 H2 ok1).mono ?_
  rintro e w3 ⟨a3, c3, X3, pa, pc, rfl, H3, hp, hb3⟩
  rw [q4, q5, q6]
  have H1'' := H1'.below hb3
  have hB3 : Below w.heap.size w w3 := hB2.trans (hb3.mono hB2.size)
  clear H1' H2 H3 hb3 hp q4 q5 q6 ok1
  generalize (takeN T.1 1).2.1.1 = x1 at *
  generalize (takeN T.1 1).2.1.2.2.1 = x2 at *
  generalize (takeN T.1 1).2.1.2.2.2.length = x3 at *
  go_wp2_with fail
  have hb4 := below1 w3 (.cells #[.int .i64 x1, .int .i64 71, .int .i64 x2, .slice pa x3 pc] 43)
  generalize w3.alloc (.cells #[.int .i64 x1, .int .i64 71, .int .i64 x2, .slice pa x3 pc] 43) = V at *
  refine (lOwn a1 2 c1 X1 L V (H1''.below hb4) ok0).mono ?_
  rintro e w5 ⟨a5, c5, X5, rfl, H5, hb5⟩
  have hB5 : Below w.heap.size w w5 := (hB3.trans (hb4.mono hB3.size)).trans (hb5.mono (hB3.trans (hb4.mono hB3.size)).size)
  have hL : L.length = 2 := H1''.cnt.symm
  rw [hL]
  clear H5 hb5 hb4 H1''
  go_wp2
  go_ret
  exact ⟨rfl, hB5⟩

end Go.Proofs.Ytmjekpdgmdpndaa

namespace Go.Proofs.Ytmjekpdgmdpndaa
open Go.RowKit
attribute [local go_sem ↓] Go.wp_at_zero Go.wp_at_succ

theorem take_last (bs : List (List Nat)) (b : List Nat) : takeN (bs ++ [b]) ((bs.length : Nat) : Int) = (bs, (readB b).1, (readB b).2) := by
  unfold takeN
  rw [if_pos (by simp; omega)]
  simp [List.eraseIdx_append_of_length_le]
end Go.Proofs.Ytmjekpdgmdpndaa
