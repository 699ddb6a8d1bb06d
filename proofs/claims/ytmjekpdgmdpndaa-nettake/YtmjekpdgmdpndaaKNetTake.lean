/- What the law NetTake does, called at whatever net and message. -/
import Derived.Test.YtmjekpdgmdpndaaKNet3
namespace Go.Proofs.Ytmjekpdgmdpndaa
open Go.RowKit
attribute [local go_sem ↓] Go.wp_at_zero Go.wp_at_succ

theorem take_last (bs : List (List Nat)) (b : List Nat) : takeN (bs ++ [b]) ((bs.length : Nat) : Int) = (bs, (readB b).1, (readB b).2) := by
  unfold takeN
  rw [if_pos (by simp; omega)]
  simp [List.eraseIdx_append_of_length_le]
theorem send_one {bs : List (List Nat)} (h : bs.length < 24) (m : Q4) : sendN bs [m] = bs ++ [bytesB m] := by
  unfold sendN
  rw [List.map_singleton, List.take_of_length_le (by simp; omega)]
theorem send_none {bs : List (List Nat)} (h : ¬ bs.length < 24) (ms : List Q4) : sendN bs ms = bs := by
  unfold sendN
  rw [show 24 - bs.length = 0 by omega]
  simp

set_option maxRecDepth 20000 in
set_option maxHeartbeats 2000000 in
theorem netTake_law (a : Option Addr) (n cap : Nat) (X : List XN) (bs : List (List Nat)) (k d hs : Int) (pa : Option Addr) (l : List P3) (pc pn : Nat) (w : World) (H : NF w a n X bs) (hby : ∀ b ∈ bs, Byt b) (hfew : ∀ b ∈ bs, b.length ≤ 140737488355328)
    (hpn : pn = l.length) (hpl : l.length ≤ 9223372036854775807) (hp : PartsAt w pa l) :
    Calls Try.prog 6 #[.slice a n cap, .agg #[.int .i64 k, .int .i64 d, .int .i64 hs, .slice pa pn pc]] w fun e w' => e = .returned (.bool true) ∧ Below w.heap.size w w' := by
  have hb0 := below1 w (.cells #[.int .i64 k, .int .i64 d, .int .i64 hs, .slice pa pn pc] 43)
  have hm0 : Blk (w.alloc (.cells #[.int .i64 k, .int .i64 d, .int .i64 hs, .slice pa pn pc] 43)) w.heap.size #[.int .i64 k, .int .i64 d, .int .i64 hs, .slice pa pn pc] 43 := Blk.new _ _ _
  have HN : Hid (NF w a n X bs ∧ (∀ b ∈ bs, Byt b) ∧ (∀ b ∈ bs, b.length ≤ 140737488355328) ∧ pn = l.length ∧ l.length ≤ 9223372036854775807 ∧ PartsAt w pa l ∧ n = bs.length) := ⟨H, hby, hfew, hpn, hpl, hp, H.cnt⟩
  clear H hby hfew hpn hpl hp
  go_enter Try.func6, Try.ntmps6
  go_wp2_with fail
  generalize w.alloc (.cells #[.int .i64 k, .int .i64 d, .int .i64 hs, .slice pa pn pc] 43) = V at *
  refine (alive9_any V).mono ?_
  rintro e w1 ⟨rfl, hb1⟩
  have HB1 : Hid (Below w.heap.size w w1 ∧ Blk w1 w.heap.size #[.int .i64 k, .int .i64 d, .int .i64 hs, .slice pa pn pc] 43) := ⟨hb0.trans (hb1.mono hb0.size), hm0.below hb1 hm0.lt⟩
  obtain ⟨c0, c1, c2, c3⟩ := HB1.out.2.cells4
  clear hb0 hm0 hb1
  go_wp2_with fail
  refine (refWrong_any k d hs pa l pc pn w1 HN.out.2.2.2.1 HN.out.2.2.2.2.1 (HN.out.2.2.2.2.2.1.below HB1.out.1)).mono ?_
  rw [wrong_same9]
  rintro e w2 ⟨rfl, hb2⟩
  have HB2 : Hid (Below w.heap.size w w2 ∧ Blk w2 w.heap.size #[.int .i64 k, .int .i64 d, .int .i64 hs, .slice pa pn pc] 43) := ⟨HB1.out.1.trans (hb2.mono HB1.out.1.size), HB1.out.2.below hb2 HB1.out.2.lt⟩
  clear c0 c1 c2 c3 HB1 hb2
  by_cases hw : wrongM (k, d, hs, l) = 0
  · rw [hw]
    by_cases h100 : 100 < n
    · go_wp2
      go_ret
      exact ⟨rfl, HB2.out.1⟩
    · have ok : OkN bs := ⟨by have := HN.out.2.2.2.2.2.2; omega, HN.out.2.1, HN.out.2.2.1⟩
      have hw1 : ∀ m ∈ [((k, d, hs, l) : Q4)], wrongM m = 0 := fun m hm => by rw [List.mem_singleton.1 hm]; exact hw
      have ok2 := ok.send hw1
      obtain ⟨c0, c1, c2, c3⟩ := HB2.out.2.cells4
      have HW : Hid (wrongM (k, d, hs, l) = 0) := hw
      clear hw
      have hlen : Hid (n = bs.length) := HN.out.2.2.2.2.2.2
      go_wp2_with fail
      have hb3 := below1 w2 (.cells #[.int .i64 k, .int .i64 d, .int .i64 hs, .slice pa pn pc] 43)
      have hM : MsgsF (fun _ => False) (w2.alloc (.cells #[.int .i64 k, .int .i64 d, .int .i64 hs, .slice pa pn pc] 43)) (some ⟨w2.heap.size, 0, none⟩) 1 [(k, d, hs, (pa, pc), l)] [(k, d, hs, l)] :=
        ⟨rfl, RowAt.one (Blk.new _ _ _) (by rw [HN.out.2.2.2.1]; rfl), Or.inr (fun _ _ h => h), rfl, fun x hx => by
          rw [List.mem_singleton.1 hx]
          exact ((HN.out.2.2.2.2.2.1.below HB2.out.1).below hb3).outR (fun _ h => h.elim)⟩
      have HB3 : Hid (Below w.heap.size w (w2.alloc (.cells #[.int .i64 k, .int .i64 d, .int .i64 hs, .slice pa pn pc] 43)) ∧ Blk (w2.alloc (.cells #[.int .i64 k, .int .i64 d, .int .i64 hs, .slice pa pn pc] 43)) w.heap.size #[.int .i64 k, .int .i64 d, .int .i64 hs, .slice pa pn pc] 43) := ⟨HB2.out.1.trans (hb3.mono HB2.out.1.size), HB2.out.2.below hb3 HB2.out.2.lt⟩
      generalize w2.alloc (.cells #[.int .i64 k, .int .i64 d, .int .i64 hs, .slice pa pn pc] 43) = V2 at *
      refine (lSend a (some ⟨w2.heap.size, 0, none⟩) n cap 1 1 X bs _ _ V2 (HN.out.1.below HB3.out.1) ok hM (fun m hm => int64_ok (hw1 m hm))).mono ?_
      rintro e w4 ⟨a4, c4, X4, rfl, H4, hb4⟩
      have HB4 : Hid (Below w.heap.size w w4 ∧ Blk w4 w.heap.size #[.int .i64 k, .int .i64 d, .int .i64 hs, .slice pa pn pc] 43) := ⟨HB3.out.1.trans (hb4.mono HB3.out.1.size), HB3.out.2.below hb4 HB3.out.2.lt⟩
      clear c0 c1 c2 c3 hM hb3 hb4 HB3
      by_cases h24 : bs.length < 24
      · have h24' : n < 24 := by rw [hlen.out]; exact h24
        have HS : sendN bs [(k, d, hs, l)] = bs ++ [bytesB (k, d, hs, l)] := send_one h24 _
        have hLs : (sendN bs [(k, d, hs, l)]).length = n + 1 := by rw [HS, List.length_append, hlen.out]; rfl
        have HT : Hid (takeN (sendN bs [(k, d, hs, l)]) (n : Nat) = (bs, (k, d, hs, l), 0)) := by
          show _ = _
          rw [HS, hlen.out, take_last, read_bytes HW.out]
        rw [hLs]
        rw [hLs] at H4
        clear HS hLs
        generalize sendN bs [(k, d, hs, l)] = L at *
        go_wp2_with fail
        refine (lTake a4 (n + 1) c4 X4 L (n : Nat) w4 H4 ok2).mono ?_
        rintro e w5 ⟨a5, c5, X5, qa, qc, rfl, H5, hq, hb5⟩
        rw [HT.out]
        rw [HT.out] at H5 hq
        have HB5 : Hid (Below w.heap.size w w5 ∧ Blk w5 w.heap.size #[.int .i64 k, .int .i64 d, .int .i64 hs, .slice pa pn pc] 43) := ⟨HB4.out.1.trans (hb5.mono HB4.out.1.size), HB4.out.2.below hb5 HB4.out.2.lt⟩
        simp only at H5 hq ⊢
        have hb6 := below1 w5 (.cells #[.int .i64 k, .int .i64 d, .int .i64 hs, .slice qa l.length qc] 43)
        have hm6 : Blk (w5.alloc (.cells #[.int .i64 k, .int .i64 d, .int .i64 hs, .slice qa l.length qc] 43)) w5.heap.size #[.int .i64 k, .int .i64 d, .int .i64 hs, .slice qa l.length qc] 43 := Blk.new _ _ _
        have HB6 : Hid (Below w.heap.size w (w5.alloc (.cells #[.int .i64 k, .int .i64 d, .int .i64 hs, .slice qa l.length qc] 43)) ∧ PartsAt (w5.alloc (.cells #[.int .i64 k, .int .i64 d, .int .i64 hs, .slice qa l.length qc] 43)) qa l ∧ NF (w5.alloc (.cells #[.int .i64 k, .int .i64 d, .int .i64 hs, .slice qa l.length qc] 43)) a5 bs.length X5 bs) := ⟨HB5.out.1.trans (hb6.mono HB5.out.1.size), hq.below hb6, H5.below hb6⟩
        obtain ⟨x0, x1, x2, x3⟩ := hm6.cells4
        obtain ⟨c0, c1, c2, c3⟩ := (HB5.out.2.below hb6 HB5.out.2.lt).cells4
        clear H4 hb5 H5 hq hm6 hb6
        rw [← hlen.out] at HB6 ⊢
        generalize hll : l.length = ln at *
        have HLL : Hid (l.length = ln) := hll
        clear hll
        have hsum : IntKind.i64.wrap ((n : Int) + 1) = (n : Int) + 1 := by rw [IntKind.wrap_i64]; omega
        go_wp2_with fail
        generalize w5.alloc (.cells #[.int .i64 k, .int .i64 d, .int .i64 hs, .slice qa ln qc] 43) = V6 at *
        refine (sameMsg_any k d hs qa pa l qc pc ln pn V6 HLL.out.symm (HN.out.2.2.2.1.trans HLL.out.symm) (by rw [HLL.out]; exact HN.out.2.2.2.2.1) HB6.out.2.1 (HN.out.2.2.2.2.2.1.below HB6.out.1)).mono ?_
        rintro e w7 ⟨rfl, hb7⟩
        have HB7 : Hid (Below w.heap.size w w7 ∧ NF w7 a5 n X5 bs) := ⟨HB6.out.1.trans (hb7.mono HB6.out.1.size), HB6.out.2.2.below hb7⟩
        clear x0 x1 x2 x3 c0 c1 c2 c3 hb7
        go_wp2_with fail
        refine (lSame a5 a n n c5 cap X5 X bs bs w7 HB7.out.2 (HN.out.1.below HB7.out.1) ok ok).mono ?_
        rintro e w8 ⟨rfl, hb8⟩
        have HB8 : Hid (Below w.heap.size w w8) := HB7.out.1.trans (hb8.mono HB7.out.1.size)
        have e : decide (bs = bs) = true := decide_eq_true rfl
        rw [e]
        clear hb8 e
        go_wp2
        go_ret
        exact ⟨rfl, HB8.out⟩
      · have h24' : ¬ n < 24 := by rw [hlen.out]; exact h24
        have HS : sendN bs [(k, d, hs, l)] = bs := send_none h24 _
        rw [HS, ← hlen.out]
        rw [HS, ← hlen.out] at H4
        clear HS h24
        go_wp2_with fail
        refine (lSame a4 a n n c4 cap X4 X bs bs w4 H4 (HN.out.1.below HB4.out.1) ok ok).mono ?_
        rintro e w8 ⟨rfl, hb8⟩
        have HB8 : Hid (Below w.heap.size w w8) := HB4.out.1.trans (hb8.mono HB4.out.1.size)
        have e : decide (bs = bs) = true := decide_eq_true rfl
        rw [e]
        clear hb8 e
        go_wp2
        go_ret
        exact ⟨rfl, HB8.out⟩
  · generalize wrongM (k, d, hs, l) = y at *
    have hd : (y != 0) = true := by simpa using hw
    go_wp2
    go_ret
    exact ⟨rfl, HB2.out.1⟩

end Go.Proofs.Ytmjekpdgmdpndaa
