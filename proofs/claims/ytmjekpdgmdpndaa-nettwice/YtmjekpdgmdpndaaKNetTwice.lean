/- What the law NetTwice does, called at whatever net and place. -/
import Derived.Test.YtmjekpdgmdpndaaKJ36
namespace Go.Proofs.Ytmjekpdgmdpndaa
open Go.RowKit
attribute [local go_sem ↓] Go.wp_at_zero Go.wp_at_succ

theorem readB_len (b : List Nat) : (readB b).1.2.2.2.length ≤ 4 := by
  unfold readB
  by_cases h1 : b.length < 3
  · rw [if_pos h1]; decide
  · rw [if_neg h1]
    by_cases h2 : sumB (b.take (b.length - 2)) = endB b
    · rw [if_pos h2]
      generalize messageB (b.take (b.length - 2)) = r
      show (if (if r.2 = 0 then wrongM r.1 else r.2) = 0 then (r.1, (0 : Int)) else (m0, if r.2 = 0 then wrongM r.1 else r.2)).1.2.2.2.length ≤ 4
      by_cases h3 : (if r.2 = 0 then wrongM r.1 else r.2) = 0
      · rw [if_pos h3]
        by_cases h4 : r.2 = 0
        · rw [if_pos h4] at h3
          exact (wrongM_ok h3).2.2.2.1
        · rw [if_neg h4] at h3
          exact absurd h3 h4
      · rw [if_neg h3]; exact Nat.zero_le _
    · rw [if_neg h2]; decide
theorem take_at {bs : List (List Nat)} {k : Nat} (h : k < bs.length) : takeN bs ((k : Nat) : Int) = (bs.eraseIdx k, (readB bs[k]).1, (readB bs[k]).2) := by
  unfold takeN
  rw [if_pos (by omega)]
  simp [h]
theorem twice_at {bs : List (List Nat)} {k : Nat} (h : k < bs.length) (h24 : bs.length < 24) : twiceN bs ((k : Nat) : Int) = (bs ++ [bs[k]], 0) := by
  unfold twiceN
  rw [if_pos (by omega), if_pos h24]
  simp [h]
theorem take_front {bs : List (List Nat)} {k : Nat} (h : k < bs.length) : takeN (bs ++ [bs[k]]) ((k : Nat) : Int) = (bs.eraseIdx k ++ [bs[k]], (readB bs[k]).1, (readB bs[k]).2) := by
  rw [take_at (by simp; omega), List.eraseIdx_append_of_lt_length h]
  simp [h]

set_option maxRecDepth 20000 in
set_option maxHeartbeats 4000000 in
theorem netTwice_law (a : Option Addr) (n cap : Nat) (X : List XN) (bs : List (List Nat)) (i : Int) (w : World) (H : NF w a n X bs) (hby : ∀ b ∈ bs, Byt b) (hfew : ∀ b ∈ bs, b.length ≤ 140737488355328) :
    Calls Try.prog 5 #[.slice a n cap, .int .i64 i] w fun e w' => e = .returned (.bool true) ∧ Below w.heap.size w w' := by
  have HN : Hid (NF w a n X bs ∧ (∀ b ∈ bs, Byt b) ∧ (∀ b ∈ bs, b.length ≤ 140737488355328) ∧ n = bs.length) := ⟨H, hby, hfew, H.cnt⟩
  clear H hby hfew
  go_enter Try.func5, Try.ntmps5
  go_wp2_with fail
  refine (alive9_any w).mono ?_
  rintro e w1 ⟨rfl, hb1⟩
  have HB1 : Hid (Below w.heap.size w w1) := hb1
  clear hb1
  by_cases c1 : i < 0
  · go_wp2
    go_ret
    exact ⟨rfl, HB1.out⟩
  obtain ⟨k, rfl⟩ : ∃ k : Nat, i = (k : Int) := ⟨i.toNat, by omega⟩
  by_cases c2 : n ≤ k
  · go_wp2
    go_ret
    exact ⟨rfl, HB1.out⟩
  by_cases c3 : 24 ≤ n
  · go_wp2
    go_ret
    exact ⟨rfl, HB1.out⟩
  have hk : k < bs.length := by have := HN.out.2.2.2; omega
  have h24 : bs.length < 24 := by have := HN.out.2.2.2; omega
  have ok : OkN bs := ⟨by omega, HN.out.2.1, HN.out.2.2.1⟩
  have ok2 := ok.twice (k : Int)
  rw [twice_at hk h24] at ok2
  have ok3 := ok2.take (k : Int)
  rw [take_front hk] at ok3
  have ok4 := ok.take (k : Int)
  rw [take_at hk] at ok4
  have hel : (bs.eraseIdx k).length = n - 1 := by rw [List.length_eraseIdx, if_pos hk, HN.out.2.2.2]
  have HTw : Hid (twiceN bs (k : Int) = (bs ++ [bs[k]], 0) ∧ (bs ++ [bs[k]]).length = n + 1) := ⟨twice_at hk h24, by rw [List.length_append, HN.out.2.2.2]; rfl⟩
  have HT1 : Hid (takeN (bs ++ [bs[k]]) ((n : Nat) : Int) = (bs, (readB bs[k]).1, (readB bs[k]).2)) := by
    show _ = _
    rw [HN.out.2.2.2]
    exact take_last bs _
  have HT2 : Hid (takeN (bs ++ [bs[k]]) ((k : Nat) : Int) = (bs.eraseIdx k ++ [bs[k]], (readB bs[k]).1, (readB bs[k]).2) ∧ (bs.eraseIdx k ++ [bs[k]]).length = n) := ⟨take_front hk, by rw [List.length_append, hel]; simp; omega⟩
  have HT3 : Hid (takeN (bs.eraseIdx k ++ [bs[k]]) ((n : Nat) - 1 : Int) = (bs.eraseIdx k, (readB bs[k]).1, (readB bs[k]).2) ∧ (bs.eraseIdx k).length = n - 1) := by
    refine ⟨?_, hel⟩
    rw [show ((n : Nat) : Int) - 1 = (((bs.eraseIdx k).length : Nat) : Int) by rw [hel]; omega]
    exact take_last _ _
  have HT4 : Hid (takeN bs ((k : Nat) : Int) = (bs.eraseIdx k, (readB bs[k]).1, (readB bs[k]).2)) := take_at hk
  have hlen : Hid (bs.length = n) := HN.out.2.2.2.symm
  clear hel h24
  have hkk : Hid (k < bs.length) := hk
  simp only at ok2 ok3 ok4
  generalize bs[k] = b at *
  clear hk
  generalize bs ++ [b] = bs2 at *
  generalize bs.eraseIdx k ++ [b] = bs3 at *
  generalize bs.eraseIdx k = bs4 at *
  have hll4 : Hid ((readB b).1.2.2.2.length ≤ 4) := readB_len b
  generalize readB b = rd at *
  obtain ⟨⟨mk, md, mh, ml⟩, er⟩ := rd
  simp only at HT1 HT2 HT3 HT4 hll4
  obtain ⟨ln, HLL⟩ : ∃ ln, Hid (ml.length = ln) := ⟨_, rfl⟩
  have hln : ln ≤ 9223372036854775807 := by have h1 := hll4.out; have h2 := HLL.out; omega
  have hsum : IntKind.i64.wrap ((n : Int) + 1) = (n : Int) + 1 := by rw [IntKind.wrap_i64]; omega
  have hsub : IntKind.i64.wrap ((n : Int) - 1) = (n : Int) - 1 := by rw [IntKind.wrap_i64]; omega
  go_wp2_with fail
  refine (lTwice a n cap X bs (k : Int) w1 (HN.out.1.below HB1.out) ok).mono ?_
  rintro e w2 ⟨a2, c4, X2, rfl, H2, hb2⟩
  rw [HTw.out.1]
  rw [HTw.out.1] at H2
  simp only [HTw.out.2]
  simp only [HTw.out.2] at H2
  have B : Hid (Below w.heap.size w w2) := HB1.out.trans (hb2.mono HB1.out.size)
  have N2 : Hid (NF w2 a2 (n + 1) X2 bs2) := H2
  clear H2 hb2 HB1
  go_wp2_with fail
  refine (lTake a2 (n + 1) c4 X2 bs2 ((n : Nat) : Int) w2 (N2.out) ok2).mono ?_
  rintro e w30 ⟨b3, d3, Y3, p3, q3, rfl, H3, hp3, hb3⟩
  rw [HT1.out]
  rw [HT1.out] at H3 hp3
  simp only [HLL.out, hlen.out]
  simp only [hlen.out] at H3 hp3
  replace B : Hid (Below w.heap.size w w30) := B.out.trans (hb3.mono B.out.size)
  replace N2 : Hid (NF w30 a2 (n + 1) X2 bs2) := N2.out.below hb3
  have N3t : Hid (NF w30 b3 n Y3 bs) := H3
  have P3 : Hid (PartsAt w30 p3 ml) := hp3
  have ha3 := below1 w30 (.cells #[.int .i64 mk, .int .i64 md, .int .i64 mh, .slice p3 ln q3] 43)
  have M3 : Hid (Blk (w30.alloc (.cells #[.int .i64 mk, .int .i64 md, .int .i64 mh, .slice p3 ln q3] 43)) w30.heap.size #[.int .i64 mk, .int .i64 md, .int .i64 mh, .slice p3 ln q3] 43) := Blk.new _ _ _
  replace B : Hid (Below w.heap.size w (w30.alloc (.cells #[.int .i64 mk, .int .i64 md, .int .i64 mh, .slice p3 ln q3] 43))) := B.out.trans (ha3.mono B.out.size)
  replace N2 : Hid (NF (w30.alloc (.cells #[.int .i64 mk, .int .i64 md, .int .i64 mh, .slice p3 ln q3] 43)) a2 (n + 1) X2 bs2) := N2.out.below ha3
  replace N3t : Hid (NF (w30.alloc (.cells #[.int .i64 mk, .int .i64 md, .int .i64 mh, .slice p3 ln q3] 43)) b3 n Y3 bs) := N3t.out.below ha3
  replace P3 : Hid (PartsAt (w30.alloc (.cells #[.int .i64 mk, .int .i64 md, .int .i64 mh, .slice p3 ln q3] 43)) p3 ml) := P3.out.below ha3
  clear H3 hp3 hb3 ha3
  go_upto_region 9 with fail
  generalize w30.alloc (.cells #[.int .i64 mk, .int .i64 md, .int .i64 mh, .slice p3 ln q3] 43) = V3 at *
  go_wp2_with fail
  refine (lTake a2 (n + 1) c4 X2 bs2 ((k : Nat) : Int) V3 (N2.out) ok2).mono ?_
  rintro e w40 ⟨b4, d4, Y4, p4, q4, rfl, H4, hp4, hb4⟩
  rw [HT2.out.1]
  rw [HT2.out.1] at H4 hp4
  simp only [HLL.out, HT2.out.2]
  simp only [HT2.out.2] at H4 hp4
  replace B : Hid (Below w.heap.size w w40) := B.out.trans (hb4.mono B.out.size)
  replace N2 : Hid (NF w40 a2 (n + 1) X2 bs2) := N2.out.below hb4
  replace N3t : Hid (NF w40 b3 n Y3 bs) := N3t.out.below hb4
  replace P3 : Hid (PartsAt w40 p3 ml) := P3.out.below hb4
  replace M3 : Hid (Blk w40 w30.heap.size #[.int .i64 mk, .int .i64 md, .int .i64 mh, .slice p3 ln q3] 43) := M3.out.below hb4 M3.out.lt
  have N4t : Hid (NF w40 b4 n Y4 bs3) := H4
  have P4 : Hid (PartsAt w40 p4 ml) := hp4
  have ha4 := below1 w40 (.cells #[.int .i64 mk, .int .i64 md, .int .i64 mh, .slice p4 ln q4] 43)
  have M4 : Hid (Blk (w40.alloc (.cells #[.int .i64 mk, .int .i64 md, .int .i64 mh, .slice p4 ln q4] 43)) w40.heap.size #[.int .i64 mk, .int .i64 md, .int .i64 mh, .slice p4 ln q4] 43) := Blk.new _ _ _
  replace B : Hid (Below w.heap.size w (w40.alloc (.cells #[.int .i64 mk, .int .i64 md, .int .i64 mh, .slice p4 ln q4] 43))) := B.out.trans (ha4.mono B.out.size)
  replace N2 : Hid (NF (w40.alloc (.cells #[.int .i64 mk, .int .i64 md, .int .i64 mh, .slice p4 ln q4] 43)) a2 (n + 1) X2 bs2) := N2.out.below ha4
  replace N3t : Hid (NF (w40.alloc (.cells #[.int .i64 mk, .int .i64 md, .int .i64 mh, .slice p4 ln q4] 43)) b3 n Y3 bs) := N3t.out.below ha4
  replace P3 : Hid (PartsAt (w40.alloc (.cells #[.int .i64 mk, .int .i64 md, .int .i64 mh, .slice p4 ln q4] 43)) p3 ml) := P3.out.below ha4
  replace M3 : Hid (Blk (w40.alloc (.cells #[.int .i64 mk, .int .i64 md, .int .i64 mh, .slice p4 ln q4] 43)) w30.heap.size #[.int .i64 mk, .int .i64 md, .int .i64 mh, .slice p3 ln q3] 43) := M3.out.below ha4 M3.out.lt
  replace N4t : Hid (NF (w40.alloc (.cells #[.int .i64 mk, .int .i64 md, .int .i64 mh, .slice p4 ln q4] 43)) b4 n Y4 bs3) := N4t.out.below ha4
  replace P4 : Hid (PartsAt (w40.alloc (.cells #[.int .i64 mk, .int .i64 md, .int .i64 mh, .slice p4 ln q4] 43)) p4 ml) := P4.out.below ha4
  clear H4 hp4 hb4 ha4
  go_upto_region 10 with fail
  generalize w40.alloc (.cells #[.int .i64 mk, .int .i64 md, .int .i64 mh, .slice p4 ln q4] 43) = V4 at *
  go_wp2_with fail
  refine (lTake b4 n d4 Y4 bs3 ((n : Nat) - 1 : Int) V4 (N4t.out) ok3).mono ?_
  rintro e w50 ⟨b5, d5, Y5, p5, q5, rfl, H5, hp5, hb5⟩
  rw [HT3.out.1]
  rw [HT3.out.1] at H5 hp5
  simp only [HLL.out, HT3.out.2]
  simp only [HT3.out.2] at H5 hp5
  replace B : Hid (Below w.heap.size w w50) := B.out.trans (hb5.mono B.out.size)
  replace N2 : Hid (NF w50 a2 (n + 1) X2 bs2) := N2.out.below hb5
  replace N3t : Hid (NF w50 b3 n Y3 bs) := N3t.out.below hb5
  replace P3 : Hid (PartsAt w50 p3 ml) := P3.out.below hb5
  replace M3 : Hid (Blk w50 w30.heap.size #[.int .i64 mk, .int .i64 md, .int .i64 mh, .slice p3 ln q3] 43) := M3.out.below hb5 M3.out.lt
  replace N4t : Hid (NF w50 b4 n Y4 bs3) := N4t.out.below hb5
  replace P4 : Hid (PartsAt w50 p4 ml) := P4.out.below hb5
  replace M4 : Hid (Blk w50 w40.heap.size #[.int .i64 mk, .int .i64 md, .int .i64 mh, .slice p4 ln q4] 43) := M4.out.below hb5 M4.out.lt
  have N5t : Hid (NF w50 b5 (n - 1) Y5 bs4) := H5
  have P5 : Hid (PartsAt w50 p5 ml) := hp5
  have ha5 := below1 w50 (.cells #[.int .i64 mk, .int .i64 md, .int .i64 mh, .slice p5 ln q5] 43)
  have M5 : Hid (Blk (w50.alloc (.cells #[.int .i64 mk, .int .i64 md, .int .i64 mh, .slice p5 ln q5] 43)) w50.heap.size #[.int .i64 mk, .int .i64 md, .int .i64 mh, .slice p5 ln q5] 43) := Blk.new _ _ _
  replace B : Hid (Below w.heap.size w (w50.alloc (.cells #[.int .i64 mk, .int .i64 md, .int .i64 mh, .slice p5 ln q5] 43))) := B.out.trans (ha5.mono B.out.size)
  replace N2 : Hid (NF (w50.alloc (.cells #[.int .i64 mk, .int .i64 md, .int .i64 mh, .slice p5 ln q5] 43)) a2 (n + 1) X2 bs2) := N2.out.below ha5
  replace N3t : Hid (NF (w50.alloc (.cells #[.int .i64 mk, .int .i64 md, .int .i64 mh, .slice p5 ln q5] 43)) b3 n Y3 bs) := N3t.out.below ha5
  replace P3 : Hid (PartsAt (w50.alloc (.cells #[.int .i64 mk, .int .i64 md, .int .i64 mh, .slice p5 ln q5] 43)) p3 ml) := P3.out.below ha5
  replace M3 : Hid (Blk (w50.alloc (.cells #[.int .i64 mk, .int .i64 md, .int .i64 mh, .slice p5 ln q5] 43)) w30.heap.size #[.int .i64 mk, .int .i64 md, .int .i64 mh, .slice p3 ln q3] 43) := M3.out.below ha5 M3.out.lt
  replace N4t : Hid (NF (w50.alloc (.cells #[.int .i64 mk, .int .i64 md, .int .i64 mh, .slice p5 ln q5] 43)) b4 n Y4 bs3) := N4t.out.below ha5
  replace P4 : Hid (PartsAt (w50.alloc (.cells #[.int .i64 mk, .int .i64 md, .int .i64 mh, .slice p5 ln q5] 43)) p4 ml) := P4.out.below ha5
  replace M4 : Hid (Blk (w50.alloc (.cells #[.int .i64 mk, .int .i64 md, .int .i64 mh, .slice p5 ln q5] 43)) w40.heap.size #[.int .i64 mk, .int .i64 md, .int .i64 mh, .slice p4 ln q4] 43) := M4.out.below ha5 M4.out.lt
  replace N5t : Hid (NF (w50.alloc (.cells #[.int .i64 mk, .int .i64 md, .int .i64 mh, .slice p5 ln q5] 43)) b5 (n - 1) Y5 bs4) := N5t.out.below ha5
  replace P5 : Hid (PartsAt (w50.alloc (.cells #[.int .i64 mk, .int .i64 md, .int .i64 mh, .slice p5 ln q5] 43)) p5 ml) := P5.out.below ha5
  clear H5 hp5 hb5 ha5
  go_upto_region 11 with fail
  generalize w50.alloc (.cells #[.int .i64 mk, .int .i64 md, .int .i64 mh, .slice p5 ln q5] 43) = V5 at *
  have N0 : Hid (NF V5 a n X bs) := HN.out.1.below B.out
  go_wp2_with fail
  refine (lTake a n cap X bs ((k : Nat) : Int) V5 (N0.out) ok).mono ?_
  rintro e w60 ⟨b6, d6, Y6, p6, q6, rfl, H6, hp6, hb6⟩
  rw [HT4.out]
  rw [HT4.out] at H6 hp6
  simp only [HLL.out, HT3.out.2]
  simp only [HT3.out.2] at H6 hp6
  replace B : Hid (Below w.heap.size w w60) := B.out.trans (hb6.mono B.out.size)
  replace N2 : Hid (NF w60 a2 (n + 1) X2 bs2) := N2.out.below hb6
  replace N3t : Hid (NF w60 b3 n Y3 bs) := N3t.out.below hb6
  replace P3 : Hid (PartsAt w60 p3 ml) := P3.out.below hb6
  replace M3 : Hid (Blk w60 w30.heap.size #[.int .i64 mk, .int .i64 md, .int .i64 mh, .slice p3 ln q3] 43) := M3.out.below hb6 M3.out.lt
  replace N4t : Hid (NF w60 b4 n Y4 bs3) := N4t.out.below hb6
  replace P4 : Hid (PartsAt w60 p4 ml) := P4.out.below hb6
  replace M4 : Hid (Blk w60 w40.heap.size #[.int .i64 mk, .int .i64 md, .int .i64 mh, .slice p4 ln q4] 43) := M4.out.below hb6 M4.out.lt
  replace N5t : Hid (NF w60 b5 (n - 1) Y5 bs4) := N5t.out.below hb6
  replace P5 : Hid (PartsAt w60 p5 ml) := P5.out.below hb6
  replace M5 : Hid (Blk w60 w50.heap.size #[.int .i64 mk, .int .i64 md, .int .i64 mh, .slice p5 ln q5] 43) := M5.out.below hb6 M5.out.lt
  replace N0 : Hid (NF w60 a n X bs) := N0.out.below hb6
  have N6t : Hid (NF w60 b6 (n - 1) Y6 bs4) := H6
  have P6 : Hid (PartsAt w60 p6 ml) := hp6
  have ha6 := below1 w60 (.cells #[.int .i64 mk, .int .i64 md, .int .i64 mh, .slice p6 ln q6] 43)
  have M6 : Hid (Blk (w60.alloc (.cells #[.int .i64 mk, .int .i64 md, .int .i64 mh, .slice p6 ln q6] 43)) w60.heap.size #[.int .i64 mk, .int .i64 md, .int .i64 mh, .slice p6 ln q6] 43) := Blk.new _ _ _
  replace B : Hid (Below w.heap.size w (w60.alloc (.cells #[.int .i64 mk, .int .i64 md, .int .i64 mh, .slice p6 ln q6] 43))) := B.out.trans (ha6.mono B.out.size)
  replace N2 : Hid (NF (w60.alloc (.cells #[.int .i64 mk, .int .i64 md, .int .i64 mh, .slice p6 ln q6] 43)) a2 (n + 1) X2 bs2) := N2.out.below ha6
  replace N3t : Hid (NF (w60.alloc (.cells #[.int .i64 mk, .int .i64 md, .int .i64 mh, .slice p6 ln q6] 43)) b3 n Y3 bs) := N3t.out.below ha6
  replace P3 : Hid (PartsAt (w60.alloc (.cells #[.int .i64 mk, .int .i64 md, .int .i64 mh, .slice p6 ln q6] 43)) p3 ml) := P3.out.below ha6
  replace M3 : Hid (Blk (w60.alloc (.cells #[.int .i64 mk, .int .i64 md, .int .i64 mh, .slice p6 ln q6] 43)) w30.heap.size #[.int .i64 mk, .int .i64 md, .int .i64 mh, .slice p3 ln q3] 43) := M3.out.below ha6 M3.out.lt
  replace N4t : Hid (NF (w60.alloc (.cells #[.int .i64 mk, .int .i64 md, .int .i64 mh, .slice p6 ln q6] 43)) b4 n Y4 bs3) := N4t.out.below ha6
  replace P4 : Hid (PartsAt (w60.alloc (.cells #[.int .i64 mk, .int .i64 md, .int .i64 mh, .slice p6 ln q6] 43)) p4 ml) := P4.out.below ha6
  replace M4 : Hid (Blk (w60.alloc (.cells #[.int .i64 mk, .int .i64 md, .int .i64 mh, .slice p6 ln q6] 43)) w40.heap.size #[.int .i64 mk, .int .i64 md, .int .i64 mh, .slice p4 ln q4] 43) := M4.out.below ha6 M4.out.lt
  replace N5t : Hid (NF (w60.alloc (.cells #[.int .i64 mk, .int .i64 md, .int .i64 mh, .slice p6 ln q6] 43)) b5 (n - 1) Y5 bs4) := N5t.out.below ha6
  replace P5 : Hid (PartsAt (w60.alloc (.cells #[.int .i64 mk, .int .i64 md, .int .i64 mh, .slice p6 ln q6] 43)) p5 ml) := P5.out.below ha6
  replace M5 : Hid (Blk (w60.alloc (.cells #[.int .i64 mk, .int .i64 md, .int .i64 mh, .slice p6 ln q6] 43)) w50.heap.size #[.int .i64 mk, .int .i64 md, .int .i64 mh, .slice p5 ln q5] 43) := M5.out.below ha6 M5.out.lt
  replace N0 : Hid (NF (w60.alloc (.cells #[.int .i64 mk, .int .i64 md, .int .i64 mh, .slice p6 ln q6] 43)) a n X bs) := N0.out.below ha6
  replace N6t : Hid (NF (w60.alloc (.cells #[.int .i64 mk, .int .i64 md, .int .i64 mh, .slice p6 ln q6] 43)) b6 (n - 1) Y6 bs4) := N6t.out.below ha6
  replace P6 : Hid (PartsAt (w60.alloc (.cells #[.int .i64 mk, .int .i64 md, .int .i64 mh, .slice p6 ln q6] 43)) p6 ml) := P6.out.below ha6
  clear H6 hp6 hb6 ha6
  go_upto_region 12 with fail
  generalize w60.alloc (.cells #[.int .i64 mk, .int .i64 md, .int .i64 mh, .slice p6 ln q6] 43) = V6 at *
  obtain ⟨x0, x1, x2, x3⟩ := M3.out.cells4
  obtain ⟨y0, y1, y2, y3⟩ := M4.out.cells4
  go_wp2_with fail
  refine (sameMsg_any mk md mh p3 p4 ml q3 q4 ln ln V6 HLL.out.symm HLL.out.symm (by rw [HLL.out]; exact hln) P3.out P4.out).mono ?_
  rintro e w7 ⟨rfl, hb7⟩
  replace B : Hid (Below w.heap.size w w7) := B.out.trans (hb7.mono B.out.size)
  replace N2 : Hid (NF w7 a2 (n + 1) X2 bs2) := N2.out.below hb7
  replace N3t : Hid (NF w7 b3 n Y3 bs) := N3t.out.below hb7
  replace P3 : Hid (PartsAt w7 p3 ml) := P3.out.below hb7
  replace M3 : Hid (Blk w7 w30.heap.size #[.int .i64 mk, .int .i64 md, .int .i64 mh, .slice p3 ln q3] 43) := M3.out.below hb7 M3.out.lt
  replace N4t : Hid (NF w7 b4 n Y4 bs3) := N4t.out.below hb7
  replace P4 : Hid (PartsAt w7 p4 ml) := P4.out.below hb7
  replace M4 : Hid (Blk w7 w40.heap.size #[.int .i64 mk, .int .i64 md, .int .i64 mh, .slice p4 ln q4] 43) := M4.out.below hb7 M4.out.lt
  replace N5t : Hid (NF w7 b5 (n - 1) Y5 bs4) := N5t.out.below hb7
  replace P5 : Hid (PartsAt w7 p5 ml) := P5.out.below hb7
  replace M5 : Hid (Blk w7 w50.heap.size #[.int .i64 mk, .int .i64 md, .int .i64 mh, .slice p5 ln q5] 43) := M5.out.below hb7 M5.out.lt
  replace N0 : Hid (NF w7 a n X bs) := N0.out.below hb7
  replace N6t : Hid (NF w7 b6 (n - 1) Y6 bs4) := N6t.out.below hb7
  replace P6 : Hid (PartsAt w7 p6 ml) := P6.out.below hb7
  replace M6 : Hid (Blk w7 w60.heap.size #[.int .i64 mk, .int .i64 md, .int .i64 mh, .slice p6 ln q6] 43) := M6.out.below hb7 M6.out.lt
  clear x0 x1 x2 x3 y0 y1 y2 y3 hb7
  obtain ⟨x0, x1, x2, x3⟩ := M4.out.cells4
  obtain ⟨y0, y1, y2, y3⟩ := M5.out.cells4
  go_wp2_with fail
  refine (sameMsg_any mk md mh p4 p5 ml q4 q5 ln ln w7 HLL.out.symm HLL.out.symm (by rw [HLL.out]; exact hln) P4.out P5.out).mono ?_
  rintro e w8 ⟨rfl, hb8⟩
  replace B : Hid (Below w.heap.size w w8) := B.out.trans (hb8.mono B.out.size)
  replace N2 : Hid (NF w8 a2 (n + 1) X2 bs2) := N2.out.below hb8
  replace N3t : Hid (NF w8 b3 n Y3 bs) := N3t.out.below hb8
  replace P3 : Hid (PartsAt w8 p3 ml) := P3.out.below hb8
  replace M3 : Hid (Blk w8 w30.heap.size #[.int .i64 mk, .int .i64 md, .int .i64 mh, .slice p3 ln q3] 43) := M3.out.below hb8 M3.out.lt
  replace N4t : Hid (NF w8 b4 n Y4 bs3) := N4t.out.below hb8
  replace P4 : Hid (PartsAt w8 p4 ml) := P4.out.below hb8
  replace M4 : Hid (Blk w8 w40.heap.size #[.int .i64 mk, .int .i64 md, .int .i64 mh, .slice p4 ln q4] 43) := M4.out.below hb8 M4.out.lt
  replace N5t : Hid (NF w8 b5 (n - 1) Y5 bs4) := N5t.out.below hb8
  replace P5 : Hid (PartsAt w8 p5 ml) := P5.out.below hb8
  replace M5 : Hid (Blk w8 w50.heap.size #[.int .i64 mk, .int .i64 md, .int .i64 mh, .slice p5 ln q5] 43) := M5.out.below hb8 M5.out.lt
  replace N0 : Hid (NF w8 a n X bs) := N0.out.below hb8
  replace N6t : Hid (NF w8 b6 (n - 1) Y6 bs4) := N6t.out.below hb8
  replace P6 : Hid (PartsAt w8 p6 ml) := P6.out.below hb8
  replace M6 : Hid (Blk w8 w60.heap.size #[.int .i64 mk, .int .i64 md, .int .i64 mh, .slice p6 ln q6] 43) := M6.out.below hb8 M6.out.lt
  clear x0 x1 x2 x3 y0 y1 y2 y3 hb8
  obtain ⟨x0, x1, x2, x3⟩ := M5.out.cells4
  obtain ⟨y0, y1, y2, y3⟩ := M6.out.cells4
  go_wp2_with fail
  refine (sameMsg_any mk md mh p5 p6 ml q5 q6 ln ln w8 HLL.out.symm HLL.out.symm (by rw [HLL.out]; exact hln) P5.out P6.out).mono ?_
  rintro e w9 ⟨rfl, hb9⟩
  replace B : Hid (Below w.heap.size w w9) := B.out.trans (hb9.mono B.out.size)
  replace N2 : Hid (NF w9 a2 (n + 1) X2 bs2) := N2.out.below hb9
  replace N3t : Hid (NF w9 b3 n Y3 bs) := N3t.out.below hb9
  replace P3 : Hid (PartsAt w9 p3 ml) := P3.out.below hb9
  replace M3 : Hid (Blk w9 w30.heap.size #[.int .i64 mk, .int .i64 md, .int .i64 mh, .slice p3 ln q3] 43) := M3.out.below hb9 M3.out.lt
  replace N4t : Hid (NF w9 b4 n Y4 bs3) := N4t.out.below hb9
  replace P4 : Hid (PartsAt w9 p4 ml) := P4.out.below hb9
  replace M4 : Hid (Blk w9 w40.heap.size #[.int .i64 mk, .int .i64 md, .int .i64 mh, .slice p4 ln q4] 43) := M4.out.below hb9 M4.out.lt
  replace N5t : Hid (NF w9 b5 (n - 1) Y5 bs4) := N5t.out.below hb9
  replace P5 : Hid (PartsAt w9 p5 ml) := P5.out.below hb9
  replace M5 : Hid (Blk w9 w50.heap.size #[.int .i64 mk, .int .i64 md, .int .i64 mh, .slice p5 ln q5] 43) := M5.out.below hb9 M5.out.lt
  replace N0 : Hid (NF w9 a n X bs) := N0.out.below hb9
  replace N6t : Hid (NF w9 b6 (n - 1) Y6 bs4) := N6t.out.below hb9
  replace P6 : Hid (PartsAt w9 p6 ml) := P6.out.below hb9
  replace M6 : Hid (Blk w9 w60.heap.size #[.int .i64 mk, .int .i64 md, .int .i64 mh, .slice p6 ln q6] 43) := M6.out.below hb9 M6.out.lt
  clear x0 x1 x2 x3 y0 y1 y2 y3 hb9
  go_wp2_with fail
  refine (lSame b3 a n n d3 cap Y3 X bs bs w9 N3t.out N0.out ok ok).mono ?_
  rintro e w10 ⟨rfl, hb10⟩
  rw [show decide (bs = bs) = true from decide_eq_true rfl]
  replace B : Hid (Below w.heap.size w w10) := B.out.trans (hb10.mono B.out.size)
  replace N2 : Hid (NF w10 a2 (n + 1) X2 bs2) := N2.out.below hb10
  replace N3t : Hid (NF w10 b3 n Y3 bs) := N3t.out.below hb10
  replace P3 : Hid (PartsAt w10 p3 ml) := P3.out.below hb10
  replace M3 : Hid (Blk w10 w30.heap.size #[.int .i64 mk, .int .i64 md, .int .i64 mh, .slice p3 ln q3] 43) := M3.out.below hb10 M3.out.lt
  replace N4t : Hid (NF w10 b4 n Y4 bs3) := N4t.out.below hb10
  replace P4 : Hid (PartsAt w10 p4 ml) := P4.out.below hb10
  replace M4 : Hid (Blk w10 w40.heap.size #[.int .i64 mk, .int .i64 md, .int .i64 mh, .slice p4 ln q4] 43) := M4.out.below hb10 M4.out.lt
  replace N5t : Hid (NF w10 b5 (n - 1) Y5 bs4) := N5t.out.below hb10
  replace P5 : Hid (PartsAt w10 p5 ml) := P5.out.below hb10
  replace M5 : Hid (Blk w10 w50.heap.size #[.int .i64 mk, .int .i64 md, .int .i64 mh, .slice p5 ln q5] 43) := M5.out.below hb10 M5.out.lt
  replace N0 : Hid (NF w10 a n X bs) := N0.out.below hb10
  replace N6t : Hid (NF w10 b6 (n - 1) Y6 bs4) := N6t.out.below hb10
  replace P6 : Hid (PartsAt w10 p6 ml) := P6.out.below hb10
  replace M6 : Hid (Blk w10 w60.heap.size #[.int .i64 mk, .int .i64 md, .int .i64 mh, .slice p6 ln q6] 43) := M6.out.below hb10 M6.out.lt
  clear hb10
  go_wp2_with fail
  refine (lSame b5 b6 (n - 1) (n - 1) d5 d6 Y5 Y6 bs4 bs4 w10 N5t.out N6t.out ok4 ok4).mono ?_
  rintro e w11 ⟨rfl, hb11⟩
  rw [show decide (bs4 = bs4) = true from decide_eq_true rfl]
  replace B : Hid (Below w.heap.size w w11) := B.out.trans (hb11.mono B.out.size)
  clear hb11
  go_wp2
  go_ret
  exact ⟨rfl, B.out⟩

end Go.Proofs.Ytmjekpdgmdpndaa
