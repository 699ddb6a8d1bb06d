/- What the law NetTells does, called at whatever net, messages and place. -/
import Derived.Test.YtmjekpdgmdpndaaKJ34
import Derived.Test.YtmjekpdgmdpndaaKRefRd
import Derived.Deep.DeepCutAuto
import Derived.Deep.RegionHeld3
namespace Go.Proofs.Ytmjekpdgmdpndaa
open Go.RowKit
attribute [local go_sem ↓] Go.wp_at_zero Go.wp_at_succ

theorem take_off {bs : List (List Nat)} {i : Int} (h : ¬ (0 ≤ i ∧ i < (bs.length : Nat))) : takeN bs i = (bs, m0, 6) := by
  unfold takeN
  rw [if_neg h]
theorem twice_off {bs : List (List Nat)} {i : Int} (h : ¬ (0 ≤ i ∧ i < (bs.length : Nat))) : twiceN bs i = (bs, 6) := by
  unfold twiceN
  rw [if_neg h]
theorem twice_full {bs : List (List Nat)} {k : Nat} (h : k < bs.length) (h24 : ¬ bs.length < 24) : twiceN bs ((k : Nat) : Int) = (bs, 0) := by
  unfold twiceN
  rw [if_pos (by omega), if_neg h24]

theorem NetO.fc {w : World} {base : Nat} {v : Value} {bs : List (List Nat)} (h : NetO w base v bs) : ∃ a c X, v = .slice a bs.length c ∧ NF w a bs.length X bs ∧ bs.length ≤ c ∧ c ≤ maxLen := by
  obtain ⟨X, h1, h2, h3, h4⟩ := h
  obtain ⟨a, c, rfl, hr, hc1, hc2⟩ := h1.row lenN
  have hl : X.length = bs.length := by rw [← h2, List.length_map]
  rw [hl] at hc1 ⊢
  exact ⟨a, c, X, rfl, ⟨hl.symm, hr, Or.inr (fun _ _ h => h), h2, fun x hx => (h3 x hx).outR (fun _ h => h.elim), h4⟩, hc1, hc2⟩
theorem lTwiceC (a : Option Addr) (n cap : Nat) (X : List XN) (bs : List (List Nat)) (i : Int) (w : World) (H : NF w a n X bs) (ok : OkN bs) :
    Calls Try.prog 17 #[.slice a n cap, .int .i64 i] w fun e w' => ∃ a' c' X', e = .returned (.tuple #[.slice a' (twiceN bs i).1.length c', .int .i64 (twiceN bs i).2]) ∧ NF w' a' (twiceN bs i).1.length X' (twiceN bs i).1 ∧ (twiceN bs i).1.length ≤ c' ∧ Below w.heap.size w w' := by
  refine (netTwice_any _ a n cap X bs i w H (H.few ok).1 (H.few ok).2).mono ?_
  rintro e w' ⟨v, rfl, h1, h2⟩
  obtain ⟨a', c', X', rfl, hF, hc, _⟩ := h1.fc
  exact ⟨a', c', X', rfl, hF, hc, h2⟩
theorem sameNet_t (a b : Option Addr) (n m c d : Nat) (X Y : List XN) (bs : List (List Nat)) (w : World) (H : NF w a n X bs) (K : NF w b m Y bs) (ok : OkN bs) :
    Calls Try.prog 14 #[.slice a n c, .slice b m d] w fun e w' => e = .returned (.bool true) ∧ ∃ m, w' = w.drewN m := by
  have h := sameNet_q _ _ a b n m c d X Y bs bs w H K ok.byt ok.byt (H.few ok).1
  rw [decide_eq_true rfl] at h
  exact h
theorem row_drop {w : World} {g o : Nat} {X : List XN} (h : RowAt 1 encN w (some ⟨g, o, none⟩) X) {cap j : Nat} (hcap : X.length ≤ cap) {A : Addr} (hA : (if cap = j then (some ⟨g, o, none⟩ : Option Addr) else some ⟨g, o + j, none⟩) = some A) : RowAt 1 encN w (some A) (X.drop j) := by
  by_cases hj : cap = j
  · rw [List.drop_eq_nil_of_le (by omega)]
    exact Or.inl rfl
  · rw [if_neg hj] at hA
    cases hA
    rcases h with rfl | ⟨b, o', e, hlt, hc⟩
    · simp; exact Or.inl rfl
    · cases e
      refine Or.inr ⟨g, o + j, rfl, hlt, fun i hi t u hu => ?_⟩
      have hi' : j + i < X.length := by simp at hi; omega
      have h1 := hc (j + i) hi' t u (by simpa using hu)
      rw [show o + j + i * 1 + t = o + (j + i) * 1 + t by omega]
      exact h1
theorem NetF.erase {w w' : World} {a : Option Addr} {n : Nat} {X : List XN} {bs : List (List Nat)} {k : Nat} (H : NF w a n X bs) (hb : Below w.heap.size w w') {a' : Option Addr} (hr : RowAt 1 encN w' a' (X.eraseIdx k)) : NF w' a' (X.eraseIdx k).length (X.eraseIdx k) (bs.eraseIdx k) :=
  ⟨rfl, hr, Or.inr (fun _ _ h => h), by rw [← H.says]; exact (eraseIdx_map _ _ _).symm, fun x hx => ((H.bytes x (List.mem_of_mem_eraseIdx hx)).below hb), fun x hx => H.caps x (List.mem_of_mem_eraseIdx hx)⟩
theorem NetF.front {w : World} {a : Option Addr} {n : Nat} {X : List XN} {bs cs : List (List Nat)} (H : NF w a n X (bs ++ cs)) : NF w a bs.length (X.take bs.length) bs := by
  have hl : X.length = bs.length + cs.length := by have h1 := H.cnt; have h2 := H.n; rw [List.length_append] at h1; omega
  refine ⟨by rw [List.length_take]; omega, H.row.take _, Or.inr (fun _ _ h => h), ?_, fun x hx => H.bytes x (List.mem_of_mem_take hx), fun x hx => H.caps x (List.mem_of_mem_take hx)⟩
  rw [List.map_take, H.says, List.take_left']
  rfl

set_option maxRecDepth 20000 in
set_option maxHeartbeats 4000000 in
theorem netTells_law (a : Option Addr) (n cap : Nat) (X : List XN) (bs : List (List Nat)) (ma : Option Addr) (mn mc : Nat) (U : List XM) (ms : List Q4) (i : Int) (w : World) (H : NF w a n X bs) (hby : ∀ b ∈ bs, Byt b) (hfew : ∀ b ∈ bs, b.length ≤ 140737488355328)
    (hM : MsgsF (fun _ => False) w ma mn U ms) (hmp : ∀ x ∈ U, x.2.2.2.2.length ≤ 9223372036854775807) (hmn : mn ≤ 9223372036854775807) (hcap : n ≤ cap) :
    Calls Try.prog 4 #[.slice a n cap, .slice ma mn mc, .int .i64 i] w fun e w' => e = .returned (.bool true) ∧ Below w.heap.size w w' := by
  have HN : Hid (NF w a n X bs ∧ (∀ b ∈ bs, Byt b) ∧ (∀ b ∈ bs, b.length ≤ 140737488355328) ∧ n = bs.length ∧ MsgsF (fun _ => False) w ma mn U ms ∧ (∀ x ∈ U, x.2.2.2.2.length ≤ 9223372036854775807)) := ⟨H, hby, hfew, H.cnt, hM, hmp⟩
  clear H hby hfew hM hmp
  go_enter Try.func4, Try.ntmps4
  by_cases h100 : 100 < n
  · go_wp2
    go_ret
    exact ⟨rfl, Below.refl _ _⟩
  have ok : OkN bs := ⟨by have := HN.out.2.2.2; omega, HN.out.2.1, HN.out.2.2.1⟩
  have hlen : Hid (bs.length = n) := HN.out.2.2.2.1.symm
  go_wp2_with fail
  refine (lOwn a n cap X bs w HN.out.1 ok).mono ?_
  rintro e w1 ⟨a1, c1, X1, rfl, H1, hb1⟩
  rw [hlen.out]
  rw [hlen.out] at H1
  have B : Hid (Below w.heap.size w w1) := hb1
  have N1 : Hid (NF w1 a1 n X1 bs) := H1
  clear H1 hb1
  go_wp2_with fail
  refine (lSame a1 a n n c1 cap X1 X bs bs w1 N1.out (HN.out.1.below B.out) ok ok).mono ?_
  rintro e w2 ⟨rfl, hb2⟩
  rw [show decide (bs = bs) = true from decide_eq_true rfl]
  replace B : Hid (Below w.heap.size w w2) := B.out.trans (hb2.mono B.out.size)
  clear hb2 N1
  go_wp2_with fail
  refine (lTake a n cap X bs i w2 (HN.out.1.below B.out) ok).mono ?_
  rintro e w3 ⟨a3, c3, X3, pa, pc, rfl, H3, hp3, hb3⟩
  have okT := ok.take i
  have hTl : Hid ((takeN bs i).2.1.2.2.2.length ≤ 4) := by
    show _ ≤ _
    unfold takeN
    split
    · exact readB_len _
    · exact Nat.zero_le _
  obtain ⟨T, hT⟩ : ∃ T, Hid (takeN bs i = T) := ⟨_, rfl⟩
  rw [hT.out] at H3 hp3 okT hTl ⊢
  obtain ⟨tbs, ⟨mk, md, mh, ml⟩, er⟩ := T
  simp only at H3 hp3 okT hTl ⊢
  obtain ⟨ln, HLL⟩ : ∃ ln, Hid (ml.length = ln) := ⟨_, rfl⟩
  obtain ⟨lt, HLT⟩ : ∃ lt, Hid (tbs.length = lt) := ⟨_, rfl⟩
  rw [HLT.out] at H3
  simp only [HLL.out, HLT.out]
  have ha3 := below1 w3 (.cells #[.int .i64 mk, .int .i64 md, .int .i64 mh, .slice pa ln pc] 43)
  have M3 : Hid (Blk (w3.alloc (.cells #[.int .i64 mk, .int .i64 md, .int .i64 mh, .slice pa ln pc] 43)) w3.heap.size #[.int .i64 mk, .int .i64 md, .int .i64 mh, .slice pa ln pc] 43) := Blk.new _ _ _
  have N3 : Hid (NF (w3.alloc (.cells #[.int .i64 mk, .int .i64 md, .int .i64 mh, .slice pa ln pc] 43)) a3 lt X3 tbs) := H3.below ha3
  have P3' : Hid (PartsAt (w3.alloc (.cells #[.int .i64 mk, .int .i64 md, .int .i64 mh, .slice pa ln pc] 43)) pa ml) := hp3.below ha3
  replace B : Hid (Below w.heap.size w (w3.alloc (.cells #[.int .i64 mk, .int .i64 md, .int .i64 mh, .slice pa ln pc] 43))) := B.out.trans ((hb3.trans (ha3.mono hb3.size)).mono B.out.size)
  clear H3 hp3 hb3 ha3
  go_upto_region 6 with fail
  generalize w3.alloc (.cells #[.int .i64 mk, .int .i64 md, .int .i64 mh, .slice pa ln pc] 43) = V3 at *
  go_wp2_with fail
  refine (lTwiceC a n cap X bs i V3 (HN.out.1.below B.out) ok).mono ?_
  rintro e w4 ⟨a4, c4, X4, rfl, H4, hcp4, hb4⟩
  have okW := ok.twice i
  obtain ⟨Tw, hTw⟩ : ∃ Tw, Hid (twiceN bs i = Tw) := ⟨_, rfl⟩
  rw [hTw.out] at H4 okW hcp4 ⊢
  obtain ⟨wbs, ew⟩ := Tw
  simp only at H4 okW hcp4 ⊢
  obtain ⟨lw, HLW⟩ : ∃ lw, Hid (wbs.length = lw) := ⟨_, rfl⟩
  rw [HLW.out] at H4 hcp4 ⊢
  have N4 : Hid (NF w4 a4 lw X4 wbs) := H4
  replace M3 : Hid (Blk w4 w3.heap.size #[.int .i64 mk, .int .i64 md, .int .i64 mh, .slice pa ln pc] 43) := M3.out.below hb4 M3.out.lt
  replace N3 : Hid (NF w4 a3 lt X3 tbs) := N3.out.below hb4
  replace P3' : Hid (PartsAt w4 pa ml) := P3'.out.below hb4
  replace B : Hid (Below w.heap.size w w4) := B.out.trans (hb4.mono B.out.size)
  clear H4 hb4
  by_cases c : 0 ≤ i ∧ i < (n : Nat)
  · obtain ⟨k, rfl⟩ : ∃ k : Nat, i = (k : Int) := ⟨i.toNat, by omega⟩
    have hkn : k < n := by omega
    have hkb : k < bs.length := by rw [hlen.out]; exact hkn
    have hkX : k < X.length := by have := HN.out.1.n; omega
    have hT2 := hT.out
    rw [take_at hkb] at hT2
    have hXk : X[k].2 = bs[k] := by have h := HN.out.1.says; subst h; simp
    have HTB : Hid (tbs = bs.eraseIdx k ∧ (readB X[k].2) = ((mk, md, mh, ml), er)) := by
      rw [hXk]
      simp only [Prod.mk.injEq] at hT2
      exact ⟨hT2.1.symm, by rw [← Prod.eta (readB bs[k]), hT2.2.1, hT2.2.2]⟩
    have HTW : Hid ((n < 24 → wbs = bs ++ [X[k].2] ∧ ew = 0) ∧ (¬ n < 24 → wbs = bs ∧ ew = 0)) := by
      rw [hXk]
      refine ⟨fun h => ?_, fun h => ?_⟩
      · have h1 := hTw.out
        rw [twice_at hkb (by rw [hlen.out]; exact h)] at h1
        simp only [Prod.mk.injEq] at h1
        exact ⟨h1.1.symm, h1.2.symm⟩
      · have h1 := hTw.out
        rw [twice_full hkb (by rw [hlen.out]; exact h)] at h1
        simp only [Prod.mk.injEq] at h1
        exact ⟨h1.1.symm, h1.2.symm⟩
    have HXb := (HN.out.1.bytes _ (List.getElem_mem hkX)).1
    have HXc := HN.out.1.caps _ (List.getElem_mem hkX)
    have HXy : Byt X[k].2 := HN.out.2.1 _ (by rw [← HN.out.1.says]; exact List.mem_map.2 ⟨_, List.getElem_mem hkX, rfl⟩)
    have HSX : Hid (X.take k ++ X.drop (k + 1) = X.eraseIdx k ∧ (X.eraseIdx k).length = n - 1) := ⟨(List.eraseIdx_eq_take_drop_succ _ _).symm, by rw [List.length_eraseIdx, if_pos hkX, HN.out.1.n]⟩
    rcases HN.out.1.row with h0 | ⟨g, o, rfl, hg, hc⟩
    · rw [h0] at hkX; simp at hkX
    have d0 := hc k hkX 0 _ rfl
    clear hT2 hXk hc
    generalize X[k] = x at *
    obtain ⟨⟨ax, cx⟩, l⟩ := x
    simp only [Nat.mul_one, Nat.add_zero] at d0 HXb HXc HXy HTB HTW
    obtain ⟨lx, HLX⟩ : ∃ lx, Hid (l.length = lx) := ⟨_, rfl⟩
    rw [HLX.out] at d0
    have D0 : Hid (w.cell? ⟨g, o + k, none⟩ = some (.slice ax lx cx) ∧ g < w.heap.size) := ⟨d0, hg⟩
    have HQ : Hid (BytesAt w ax l ∧ l.length ≤ cx ∧ cx ≤ 9223372036854775807 ∧ Byt l) := ⟨HXb, HXc.1, by have h1 := HXc.2; unfold maxLen at h1; omega, HXy⟩
    obtain ⟨j, hj⟩ : ∃ j, Hid (j = k + 1) := ⟨_, rfl⟩
    obtain ⟨A, hA⟩ : ∃ A : Addr, (if cap = j then (some ⟨g, o, none⟩ : Option Addr) else some ⟨g, o + j, none⟩) = some A := by
      by_cases h : cap = j
      · exact ⟨_, if_pos h⟩
      · exact ⟨_, if_neg h⟩
    have HA : Hid ((if cap = j then (some ⟨g, o, none⟩ : Option Addr) else some ⟨g, o + j, none⟩) = some A) := hA
    clear HXb HXc HXy hkb hkX d0 hg hA
    rw [← hj.out] at HSX
    have d0 := (B.out.cell (p := ⟨g, o + k, none⟩) D0.out.2).trans D0.out.1
    go_upto_if 44 with fail
    go_cut [] (fun wx => Hid (Below w.heap.size w wx))
    case first =>
      go_wp2_with fail
      refine (refRead_any ax l cx lx w4 HLX.out.symm HQ.out.2.1 HQ.out.2.2.1 HQ.out.2.2.2 (HQ.out.1.below B.out)).mono ?_
      rw [HTB.out.2]
      simp only
      rintro e w5 ⟨v5, rfl, ⟨qa, qc, rfl, hq5⟩, hb5⟩
      rw [HLL.out]
      have ha5 := below1 w5 (.cells #[.int .i64 mk, .int .i64 md, .int .i64 mh, .slice qa ln qc] 43)
      have M5 : Hid (Blk (w5.alloc (.cells #[.int .i64 mk, .int .i64 md, .int .i64 mh, .slice qa ln qc] 43)) w5.heap.size #[.int .i64 mk, .int .i64 md, .int .i64 mh, .slice qa ln qc] 43) := Blk.new _ _ _
      have P5 : Hid (PartsAt (w5.alloc (.cells #[.int .i64 mk, .int .i64 md, .int .i64 mh, .slice qa ln qc] 43)) qa ml) := hq5.at.below ha5
      have hb45 : Below w4.heap.size w4 (w5.alloc (.cells #[.int .i64 mk, .int .i64 md, .int .i64 mh, .slice qa ln qc] 43)) := hb5.trans (ha5.mono hb5.size)
      replace M3 : Hid (Blk (w5.alloc (.cells #[.int .i64 mk, .int .i64 md, .int .i64 mh, .slice qa ln qc] 43)) w3.heap.size #[.int .i64 mk, .int .i64 md, .int .i64 mh, .slice pa ln pc] 43) := M3.out.below hb45 M3.out.lt
      replace N3 : Hid (NF (w5.alloc (.cells #[.int .i64 mk, .int .i64 md, .int .i64 mh, .slice qa ln qc] 43)) a3 lt X3 tbs) := N3.out.below hb45
      replace N4 : Hid (NF (w5.alloc (.cells #[.int .i64 mk, .int .i64 md, .int .i64 mh, .slice qa ln qc] 43)) a4 lw X4 wbs) := N4.out.below hb45
      replace P3' : Hid (PartsAt (w5.alloc (.cells #[.int .i64 mk, .int .i64 md, .int .i64 mh, .slice qa ln qc] 43)) pa ml) := P3'.out.below hb45
      replace B : Hid (Below w.heap.size w (w5.alloc (.cells #[.int .i64 mk, .int .i64 md, .int .i64 mh, .slice qa ln qc] 43))) := B.out.trans (hb45.mono B.out.size)
      clear hq5 hb5 ha5 hb45 d0
      have hsk : IntKind.i64.wrap ((k : Int) + 1) = (j : Nat) := by rw [IntKind.wrap_i64]; have := hj.out; omega
      have hsn : IntKind.i64.wrap ((n : Int) + 1) = (n : Int) + 1 := by rw [IntKind.wrap_i64]; omega
      go_upto_region 11 with fail
      generalize w5.alloc (.cells #[.int .i64 mk, .int .i64 md, .int .i64 mh, .slice qa ln qc] 43) = Y at *
      have HK : Hid (∀ w', Below Y.heap.size Y w' → ((w'.cell? ⟨w3.heap.size, 0, none⟩ = some (.int .i64 mk) ∧ w'.cell? ⟨w3.heap.size, 1, none⟩ = some (.int .i64 md) ∧ w'.cell? ⟨w3.heap.size, 2, none⟩ = some (.int .i64 mh) ∧ w'.cell? ⟨w3.heap.size, 3, none⟩ = some (.slice pa ln pc)) ∧ (w'.cell? ⟨w5.heap.size, 0, none⟩ = some (.int .i64 mk) ∧ w'.cell? ⟨w5.heap.size, 1, none⟩ = some (.int .i64 md) ∧ w'.cell? ⟨w5.heap.size, 2, none⟩ = some (.int .i64 mh) ∧ w'.cell? ⟨w5.heap.size, 3, none⟩ = some (.slice qa ln qc)))) := fun w' hb => ⟨(M3.out.below hb M3.out.lt).cells4, (M5.out.below hb M5.out.lt).cells4⟩
      have hX1 : Below Y.heap.size Y Y.drew := (Below.refl _ _).drew
      have hkc : k ≤ cap := by omega
      have hkc2 : j ≤ cap := by have := hj.out; omega
      have hkn2 : j ≤ n := by have := hj.out; omega
      have hln : Hid (ln ≤ 4) := by have h1 := hTl.out; rw [HLL.out] at h1; exact h1
      have okE : OkN (bs.eraseIdx k) := by rw [← HTB.out.1]; exact okT
      have HX2 : Hid ((X.take k).length = k ∧ (X.drop j).length = n - j) := ⟨by rw [List.length_take]; have := HN.out.1.n; omega, by rw [List.length_drop]; have := HN.out.1.n; omega⟩
      have hAA := HA.out
      have hew : ew = 0 := by
        by_cases h : n < 24
        · exact (HTW.out.1 h).2
        · exact (HTW.out.2 h).2
      subst hew
      go_region_held3 (fun w' => ((w'.cell? ⟨w3.heap.size, 0, none⟩ = some (.int .i64 mk) ∧ w'.cell? ⟨w3.heap.size, 1, none⟩ = some (.int .i64 md) ∧ w'.cell? ⟨w3.heap.size, 2, none⟩ = some (.int .i64 mh) ∧ w'.cell? ⟨w3.heap.size, 3, none⟩ = some (.slice pa ln pc)) ∧ (w'.cell? ⟨w5.heap.size, 0, none⟩ = some (.int .i64 mk) ∧ w'.cell? ⟨w5.heap.size, 1, none⟩ = some (.int .i64 md) ∧ w'.cell? ⟨w5.heap.size, 2, none⟩ = some (.int .i64 mh) ∧ w'.cell? ⟨w5.heap.size, 3, none⟩ = some (.slice qa ln qc)))) (
        first
        | (with_reducible exact HK.out _ hXn)
        | (with_reducible exact HK.out _ hX95)
        | (with_reducible exact HK.out _ hX90)
        | (with_reducible exact HK.out _ hXa)
        | (with_reducible exact HK.out _ hXm)
        | (with_reducible exact HK.out _ hX1)) (
        first
        | (go_at_call 14; refine (lSame a3 a95 lt (n - 1) c3 c95 X3 (X.eraseIdx k) tbs (bs.eraseIdx k) _ (N3.out.below hX95) HE95.out okT okE).mono ?_; rw [show decide (tbs = bs.eraseIdx k) = true from decide_eq_true HTB.out.1]; rintro e wn ⟨rfl, hbn⟩; have hXn : Below Y.heap.size Y wn := hX95.trans (hbn.mono hX95.size); clear hbn)
        | (refine step_append_fresh lenN oneN Try.underlying48 infoBs rfl (by decide) _ (by first | rfl | simp [Region.wanted, yielded]) (.tmp 90) (.tmp 94) rfl Y.heap.size (.slice a90 n90 c90) (X.take k) rfl HO90.out (some A) (n - j) (cap - j) (X.drop j) (by simp [Act.eval]) HX2.out.2.symm HD90.out (by unfold maxLen; rw [HX2.out.1, HX2.out.2]; have := hj.out; omega) (by rw [HX2.out.1, HX2.out.2]; have := hj.out; omega) hX90.size ?_; intro a95 n95 c95 w95 hf95 hn95 hb95; rw [HSX.out.1] at hf95; have hr95 := hf95.at lenN; have hn95' : n95 = n - 1 := hr95.2.1.trans HSX.out.2; subst hn95'; have hX95 : Below Y.heap.size Y w95 := hX90.trans hb95; have HE95 : Hid (NF w95 a95 (n - 1) (X.eraseIdx k) (bs.eraseIdx k)) := (by have h1 := NetF.erase (k := k) HN.out.1 (B.out.trans (hX95.mono B.out.size)) hr95.1; rw [HSX.out.2] at h1; exact h1); clear hf95 hn95 hb95 hr95)
        | (refine step_append_fresh lenN oneN Try.underlying48 infoBs rfl (by decide) _ (by first | rfl | simp [Region.wanted, yielded]) (.tmp 86) (.tmp 89) rfl Y.heap.size (.slice (some ⟨wm.heap.size, 0, none⟩) 0 0) [] rfl (FreshL.made (Blk.new wm _ _) _) (some ⟨g, o, none⟩) k cap (X.take k) rfl HX2.out.1.symm (((HN.out.1.row.below B.out).below hXa).take k) (by unfold maxLen; rw [HX2.out.1]; simp; omega) (by rw [HX2.out.1]; simp; omega) hXa.size ?_; intro a90 n90 c90 w90 hf90 hn90 hb90; have hX90 : Below Y.heap.size Y w90 := hXa.trans hb90; have HO90 : Hid (FreshL 57 1 encN w90 Y.heap.size (.slice a90 n90 c90) (X.take k)) := (by rw [List.nil_append] at hf90; exact hf90); have HD90 : Hid (RowAt 1 encN w90 (some A) (X.drop j)) := row_drop ((HN.out.1.row.below B.out).below hX90) (by rw [← HN.out.1.n]; exact hcap) HA.out; clear hf90 hn90 hb90)
        | (go_at_call 19; refine (sameMsg_any mk md mh pa qa ml pc qc ln ln _ HLL.out.symm HLL.out.symm (by rw [HLL.out]; have := hln.out; omega) (P3'.out.below hX1) (P5.out.below hX1)).mono ?_; rintro e wm ⟨rfl, hbm⟩; have hXm : Below Y.heap.size Y wm := hX1.trans (hbm.mono hX1.size); have hXa : Below Y.heap.size Y (wm.alloc (.cells #[] 57)) := hXm.alloc hXm.size _; clear hbm))
      replace B : Hid (Below w.heap.size w wn) := B.out.trans (hXn.mono B.out.size)
      replace N4 : Hid (NF wn a4 lw X4 wbs) := N4.out.below hXn
      clear HK hX1 hXm hXa hX90 hX95 HE95 HO90 HD90
      by_cases h24 : n < 24
      · obtain ⟨hw, -⟩ := HTW.out.1 h24
        subst hw
        have hlw : lw = n + 1 := by rw [← HLW.out, List.length_append, hlen.out]; rfl
        subst hlw
        have h4n : n < X4.length := by have := N4.out.n; omega
        have h4l : X4[n].2 = l := by
          have h1 := N4.out.says
          have h2 : (X4.map (·.2))[n]? = some l := by rw [h1, List.getElem?_append_right (by rw [hlen.out]; exact Nat.le_refl _), hlen.out]; simp
          rw [List.getElem?_map, List.getElem?_eq_getElem h4n] at h2
          simpa using h2
        have h4b := (N4.out.bytes _ (List.getElem_mem h4n)).1
        have N4f := NetF.front N4.out
        rw [hlen.out] at N4f
        have N4F : Hid (NF wn a4 n (X4.take n) bs) := N4f
        have hrow4 := N4.out.row
        rcases hrow4 with h0 | ⟨g4, o4, rfl, hg4, hc4⟩
        · rw [h0] at h4n; simp at h4n
        have q0 := hc4 n h4n 0 _ rfl
        generalize X4[n] = y at *
        obtain ⟨⟨ay, cy⟩, l'⟩ := y
        simp only [Nat.mul_one, Nat.add_zero] at q0 h4b h4l
        subst h4l
        rw [HLX.out] at q0
        have D4 : Hid (wn.cell? ⟨g4, o4 + n, none⟩ = some (.slice ay lx cy) ∧ g4 < wn.heap.size ∧ BytesAt wn ay l') := ⟨q0, hg4, h4b⟩
        have hD1 : Below wn.heap.size wn wn.drew := (Below.refl _ _).drew
        have hnc4 : n ≤ c4 := by omega
        have i1 : (n : Int) < 24 := by omega
        have i2 : ((n + 1 : Nat) : Int) = (n : Int) + 1 := by omega
        have i3 : (n : Int) < (n : Int) + 1 := by omega
        clear hc4 q0 h4b N4f hg4 N4
        go_upto_region 13 with fail
        have HK2 : Hid (∀ w', Below wn.heap.size wn w' → (w'.cell? ⟨g4, o4 + n, none⟩ = some (.slice ay lx cy) ∧ w'.cell? ⟨g, o + k, none⟩ = some (.slice ax lx cx) ∧ (convert 57 9 (.slice ay lx cy)).run Try.prog w' = .ok (.string (strN l')) w' ∧ (convert 57 9 (.slice ax lx cx)).run Try.prog w' = .ok (.string (strN l')) w')) := fun w' hb => ⟨(hb.cell (p := ⟨g4, o4 + n, none⟩) D4.out.2.1).trans D4.out.1, ((B.out.trans (hb.mono B.out.size)).cell (p := ⟨g, o + k, none⟩) D0.out.2).trans D0.out.1, by have h := convN (w := w') cy (D4.out.2.2.below hb); rw [HLX.out] at h; exact h, by have h := convN (w := w') cx ((HQ.out.1.below B.out).below hb); rw [HLX.out] at h; exact h⟩
        go_region_held3 (fun w' => (w'.cell? ⟨g4, o4 + n, none⟩ = some (.slice ay lx cy) ∧ w'.cell? ⟨g, o + k, none⟩ = some (.slice ax lx cx) ∧ (convert 57 9 (.slice ay lx cy)).run Try.prog w' = .ok (.string (strN l')) w' ∧ (convert 57 9 (.slice ax lx cx)).run Try.prog w' = .ok (.string (strN l')) w')) (
          first
          | (with_reducible exact HK2.out _ hD7)
          | (with_reducible exact HK2.out _ hD1)) ((go_at_call 14; refine (lSame (some ⟨g4, o4, none⟩) (some ⟨g, o, none⟩) n n c4 cap (X4.take n) X bs bs _ (N4F.out.below hD1) ((HN.out.1.below B.out).below hD1) ok ok).mono ?_; rw [show decide (bs = bs) = true from decide_eq_true rfl]; rintro e w7 ⟨rfl, hb7⟩; have hD7 : Below wn.heap.size wn w7 := hD1.trans (hb7.mono hD1.size); clear hb7))
        all_goals
          have HF : Hid (Below w.heap.size w w7) := B.out.trans (hD7.mono B.out.size)
          go_wp2
          go_meet
          case rel => exact HF
      · obtain ⟨hw, -⟩ := HTW.out.2 h24
        subst hw
        have hlw : n = lw := hlen.out.symm.trans HLW.out
        subst hlw
        have hD1 : Below wn.heap.size wn wn.drew := (Below.refl _ _).drew
        have i1 : ¬ (n : Int) < 24 := by omega
        have i2 : ((n : Int) == (n : Int) + 1) = false := by rw [beq_eq_false_iff_ne]; omega
        go_upto_region 13 with fail
        go_quiet ((go_at_call 14; exact Calls.quiet_of (sameNet_t a4 (some ⟨g, o, none⟩) n n c4 cap X4 X wbs _ (N4.out.below (drewN_below _ _)) ((HN.out.1.below B.out).below (drewN_below _ _)) ok)))
        all_goals
          go_wp2
          go_meet
          case rel => exact below_drewN B.out _
    case rest =>
      go_wp2
      go_loopw [141] (fun j w' => ∃ q : Nat, q ≤ mn ∧ j = .int .i64 q ∧ Hid ((∀ m ∈ ms.take q, wrongM m = 0) ∧ Below w.heap.size w w')) (fun j _ => mn - (intOf j).toNat)
      case atStart => exact ⟨0, Nat.zero_le _, rfl, (fun m hm => by simp at hm), hcut.out⟩
      case round =>
        obtain ⟨q, hq, rfl, hH⟩ := hrel
        by_cases hlt : q < mn
        · have hqU : q < U.length := by have := HN.out.2.2.2.2.1.n; omega
          have hqM : q < ms.length := by rw [← HN.out.2.2.2.2.1.says, List.length_map]; exact hqU
          have hMq : ms[q] = stripM U[q] := by
            have : ms = U.map stripM := HN.out.2.2.2.2.1.says.symm
            subst this
            rw [List.getElem_map]
          have HE : Hid (wrongM (stripM U[q]) = 0 → ∀ m ∈ ms.take (q + 1), wrongM m = 0) := fun h0 m hm => by
            rw [take_snoc hqM] at hm
            rcases List.mem_append.1 hm with hm | hm
            · exact hH.out.1 m hm
            · rw [List.mem_singleton.1 hm, hMq]; exact h0
          have hpU := (HN.out.2.2.2.2.1.parts _ (List.getElem_mem hqU)).1.below hH.out.2
          have hpL := HN.out.2.2.2.2.2 _ (List.getElem_mem hqU)
          rcases HN.out.2.2.2.2.1.row.below hH.out.2 with h0 | ⟨g, o, rfl, hg, hc⟩
          · rw [h0] at hqU; simp at hqU
          have d0 := hc q hqU 0 _ rfl
          have d1 := hc q hqU 1 _ rfl
          have d2 := hc q hqU 2 _ rfl
          have d3 := hc q hqU 3 _ rfl
          clear hc hMq
          generalize U[q] = x at *
          obtain ⟨kd, dd, hs, ⟨ax, cx⟩, l⟩ := x
          simp only [stripM, Nat.add_zero] at d0 d1 d2 d3 hpU hpL HE
          obtain ⟨ll, HLl⟩ : ∃ ll, Hid (l.length = ll) := ⟨_, rfl⟩
          rw [HLl.out] at d3
          have HQ : Hid (PartsAt wr ax l ∧ l.length ≤ 9223372036854775807 ∧ Below w.heap.size w wr) := ⟨hpU, hpL, hH.out.2⟩
          clear hpU hpL
          have hbA := below1 wr (.cells #[.int .i64 kd, .int .i64 dd, .int .i64 hs, .slice ax ll cx] 43)
          go_wp2_with fail
          refine (refWrong_any kd dd hs ax l cx ll _ HLl.out.symm HQ.out.2.1 (HQ.out.1.below hbA)).mono ?_
          rw [wrong_same9]
          rintro e w8 ⟨rfl, hb8⟩
          have HB8 : Hid (Below w.heap.size w w8) := HQ.out.2.2.trans ((hbA.trans (hb8.mono hbA.size)).mono HQ.out.2.2.size)
          clear d0 d1 d2 d3 hbA hb8
          by_cases hw : wrongM (kd, dd, hs, l) = 0
          · have HF : Hid (∀ m ∈ ms.take (q + 1), wrongM m = 0) := HE.out hw
            rw [hw]
            clear hw
            go_wp2
            go_roundw
            case rel => exact ⟨q + 1, by omega, by go_num, HF.out, HB8.out⟩
            case measure => simp [intOf]; omega
          · generalize wrongM (kd, dd, hs, l) = y at *
            have hd : (y != 0) = true := by simpa using hw
            go_wp2
            go_ret
            exact ⟨rfl, HB8.out⟩
        · have hall : ∀ m ∈ ms, wrongM m = 0 := by
            have h1 := hH.out.1
            rwa [List.take_of_length_le (by rw [← HN.out.2.2.2.2.1.says, List.length_map]; have := HN.out.2.2.2.2.1.n; omega)] at h1
          have h64 : ∀ m ∈ ms, Int64M m := fun m hm => int64_ok (hall m hm)
          have okS := ok.send hall
          replace B : Hid (Below w.heap.size w wr) := hH.out.2
          clear hH
          go_wp2_with fail
          refine (lSend (some ⟨g, o, none⟩) ma n cap mn mc X bs U ms wr (HN.out.1.below B.out) ok (HN.out.2.2.2.2.1.below B.out) h64).mono ?_
          rintro e w8 ⟨a8, c8, X8, rfl, H8, hb8⟩
          replace B : Hid (Below w.heap.size w w8) := B.out.trans (hb8.mono B.out.size)
          have N8 : Hid (NF w8 a8 (sendN bs ms).length X8 (sendN bs ms)) := H8
          clear H8 hb8
          go_wp2_with fail
          refine (refSend_any (fun _ => False) (some ⟨g, o, none⟩) ma n cap mn mc X bs U ms w8 (fun b hb => hb.elim) (HN.out.1.below B.out) (HN.out.2.2.2.2.1.below B.out) (HN.out.1.few ok).1 ?_ h64).mono ?_
          · rw [← HN.out.2.2.2.2.1.says, List.length_map]; have := HN.out.2.2.2.2.1.n; omega
          rintro e w9 ⟨v9, rfl, ⟨a9, n9, c9, X9, rfl, H9⟩, hb9⟩
          replace B : Hid (Below w.heap.size w w9) := B.out.trans (hb9.mono B.out.size)
          replace N8 : Hid (NF w9 a8 (sendN bs ms).length X8 (sendN bs ms)) := N8.out.below hb9
          have N9 : Hid (NF w9 a9 n9 X9 (sendN bs ms)) := H9
          clear H9 hb9
          generalize sendN bs ms = L at *
          go_wp2_with fail
          refine (lSame a8 a9 L.length n9 c8 c9 X8 X9 L L w9 N8.out N9.out okS okS).mono ?_
          rintro e w10 ⟨rfl, hb10⟩
          rw [show decide (L = L) = true from decide_eq_true rfl]
          replace B : Hid (Below w.heap.size w w10) := B.out.trans (hb10.mono B.out.size)
          clear hb10
          go_wp2
          go_ret
          exact ⟨rfl, B.out⟩
  · by_cases c1 : i < 0
    · have hT2 := hT.out
      have hTw2 := hTw.out
      rw [take_off (by rw [hlen.out]; exact c)] at hT2
      rw [twice_off (by rw [hlen.out]; exact c)] at hTw2
      simp only [m0, Prod.mk.injEq] at hT2 hTw2
      obtain ⟨rfl, ⟨rfl, rfl, rfl, rfl⟩, rfl⟩ := hT2
      obtain ⟨rfl, rfl⟩ := hTw2
      have hlt' : n = lt := hlen.out.symm.trans HLT.out
      have hlw' : n = lw := hlen.out.symm.trans HLW.out
      subst hlt'
      subst hlw'
      go_upto_if 44 with fail
      go_cut [] (fun wx => Hid (Below w.heap.size w wx))
      case first =>
        go_wp2_with fail
        refine (lSame a3 a n n c3 cap X3 X bs bs w4 N3.out (HN.out.1.below B.out) ok ok).mono ?_
        rintro e w5 ⟨rfl, hb5⟩
        rw [show decide (bs = bs) = true from decide_eq_true rfl]
        replace N4 : Hid (NF w5 a4 n X4 bs) := N4.out.below hb5
        replace B : Hid (Below w.heap.size w w5) := B.out.trans (hb5.mono B.out.size)
        clear hb5
        go_wp2_with fail
        refine (lSame a4 a n n c4 cap X4 X bs bs w5 N4.out (HN.out.1.below B.out) ok ok).mono ?_
        rintro e w6 ⟨rfl, hb6⟩
        rw [show decide (bs = bs) = true from decide_eq_true rfl]
        replace B : Hid (Below w.heap.size w w6) := B.out.trans (hb6.mono B.out.size)
        clear hb6
        go_wp2
        go_meet
        case rel => exact B
      case rest =>
        go_wp2
        go_loopw [141] (fun j w' => ∃ q : Nat, q ≤ mn ∧ j = .int .i64 q ∧ Hid ((∀ m ∈ ms.take q, wrongM m = 0) ∧ Below w.heap.size w w')) (fun j _ => mn - (intOf j).toNat)
        case atStart => exact ⟨0, Nat.zero_le _, rfl, (fun m hm => by simp at hm), hcut.out⟩
        case round =>
          obtain ⟨q, hq, rfl, hH⟩ := hrel
          by_cases hlt : q < mn
          · have hqU : q < U.length := by have := HN.out.2.2.2.2.1.n; omega
            have hqM : q < ms.length := by rw [← HN.out.2.2.2.2.1.says, List.length_map]; exact hqU
            have hMq : ms[q] = stripM U[q] := by
              have : ms = U.map stripM := HN.out.2.2.2.2.1.says.symm
              subst this
              rw [List.getElem_map]
            have HE : Hid (wrongM (stripM U[q]) = 0 → ∀ m ∈ ms.take (q + 1), wrongM m = 0) := fun h0 m hm => by
              rw [take_snoc hqM] at hm
              rcases List.mem_append.1 hm with hm | hm
              · exact hH.out.1 m hm
              · rw [List.mem_singleton.1 hm, hMq]; exact h0
            have hpU := (HN.out.2.2.2.2.1.parts _ (List.getElem_mem hqU)).1.below hH.out.2
            have hpL := HN.out.2.2.2.2.2 _ (List.getElem_mem hqU)
            rcases HN.out.2.2.2.2.1.row.below hH.out.2 with h0 | ⟨g, o, rfl, hg, hc⟩
            · rw [h0] at hqU; simp at hqU
            have d0 := hc q hqU 0 _ rfl
            have d1 := hc q hqU 1 _ rfl
            have d2 := hc q hqU 2 _ rfl
            have d3 := hc q hqU 3 _ rfl
            clear hc hMq
            generalize U[q] = x at *
            obtain ⟨kd, dd, hs, ⟨ax, cx⟩, l⟩ := x
            simp only [stripM, Nat.add_zero] at d0 d1 d2 d3 hpU hpL HE
            obtain ⟨ll, HLl⟩ : ∃ ll, Hid (l.length = ll) := ⟨_, rfl⟩
            rw [HLl.out] at d3
            have HQ : Hid (PartsAt wr ax l ∧ l.length ≤ 9223372036854775807 ∧ Below w.heap.size w wr) := ⟨hpU, hpL, hH.out.2⟩
            clear hpU hpL
            have hbA := below1 wr (.cells #[.int .i64 kd, .int .i64 dd, .int .i64 hs, .slice ax ll cx] 43)
            go_wp2_with fail
            refine (refWrong_any kd dd hs ax l cx ll _ HLl.out.symm HQ.out.2.1 (HQ.out.1.below hbA)).mono ?_
            rw [wrong_same9]
            rintro e w8 ⟨rfl, hb8⟩
            have HB8 : Hid (Below w.heap.size w w8) := HQ.out.2.2.trans ((hbA.trans (hb8.mono hbA.size)).mono HQ.out.2.2.size)
            clear d0 d1 d2 d3 hbA hb8
            by_cases hw : wrongM (kd, dd, hs, l) = 0
            · have HF : Hid (∀ m ∈ ms.take (q + 1), wrongM m = 0) := HE.out hw
              rw [hw]
              clear hw
              go_wp2
              go_roundw
              case rel => exact ⟨q + 1, by omega, by go_num, HF.out, HB8.out⟩
              case measure => simp [intOf]; omega
            · generalize wrongM (kd, dd, hs, l) = y at *
              have hd : (y != 0) = true := by simpa using hw
              go_wp2
              go_ret
              exact ⟨rfl, HB8.out⟩
          · have hall : ∀ m ∈ ms, wrongM m = 0 := by
              have h1 := hH.out.1
              rwa [List.take_of_length_le (by rw [← HN.out.2.2.2.2.1.says, List.length_map]; have := HN.out.2.2.2.2.1.n; omega)] at h1
            have h64 : ∀ m ∈ ms, Int64M m := fun m hm => int64_ok (hall m hm)
            have okS := ok.send hall
            replace B : Hid (Below w.heap.size w wr) := hH.out.2
            clear hH
            go_wp2_with fail
            refine (lSend a ma n cap mn mc X bs U ms wr (HN.out.1.below B.out) ok (HN.out.2.2.2.2.1.below B.out) h64).mono ?_
            rintro e w8 ⟨a8, c8, X8, rfl, H8, hb8⟩
            replace B : Hid (Below w.heap.size w w8) := B.out.trans (hb8.mono B.out.size)
            have N8 : Hid (NF w8 a8 (sendN bs ms).length X8 (sendN bs ms)) := H8
            clear H8 hb8
            go_wp2_with fail
            refine (refSend_any (fun _ => False) a ma n cap mn mc X bs U ms w8 (fun b hb => hb.elim) (HN.out.1.below B.out) (HN.out.2.2.2.2.1.below B.out) (HN.out.1.few ok).1 ?_ h64).mono ?_
            · rw [← HN.out.2.2.2.2.1.says, List.length_map]; have := HN.out.2.2.2.2.1.n; omega
            rintro e w9 ⟨v9, rfl, ⟨a9, n9, c9, X9, rfl, H9⟩, hb9⟩
            replace B : Hid (Below w.heap.size w w9) := B.out.trans (hb9.mono B.out.size)
            replace N8 : Hid (NF w9 a8 (sendN bs ms).length X8 (sendN bs ms)) := N8.out.below hb9
            have N9 : Hid (NF w9 a9 n9 X9 (sendN bs ms)) := H9
            clear H9 hb9
            generalize sendN bs ms = L at *
            go_wp2_with fail
            refine (lSame a8 a9 L.length n9 c8 c9 X8 X9 L L w9 N8.out N9.out okS okS).mono ?_
            rintro e w10 ⟨rfl, hb10⟩
            rw [show decide (L = L) = true from decide_eq_true rfl]
            replace B : Hid (Below w.heap.size w w10) := B.out.trans (hb10.mono B.out.size)
            clear hb10
            go_wp2
            go_ret
            exact ⟨rfl, B.out⟩
    · have hT2 := hT.out
      have hTw2 := hTw.out
      rw [take_off (by rw [hlen.out]; exact c)] at hT2
      rw [twice_off (by rw [hlen.out]; exact c)] at hTw2
      simp only [m0, Prod.mk.injEq] at hT2 hTw2
      obtain ⟨rfl, ⟨rfl, rfl, rfl, rfl⟩, rfl⟩ := hT2
      obtain ⟨rfl, rfl⟩ := hTw2
      have hlt' : n = lt := hlen.out.symm.trans HLT.out
      have hlw' : n = lw := hlen.out.symm.trans HLW.out
      subst hlt'
      subst hlw'
      obtain ⟨k, rfl⟩ : ∃ k : Nat, i = (k : Int) := ⟨i.toNat, by omega⟩
      have c2 : n ≤ k := by omega
      go_upto_if 44 with fail
      go_cut [] (fun wx => Hid (Below w.heap.size w wx))
      case first =>
        go_wp2_with fail
        refine (lSame a3 a n n c3 cap X3 X bs bs w4 N3.out (HN.out.1.below B.out) ok ok).mono ?_
        rintro e w5 ⟨rfl, hb5⟩
        rw [show decide (bs = bs) = true from decide_eq_true rfl]
        replace N4 : Hid (NF w5 a4 n X4 bs) := N4.out.below hb5
        replace B : Hid (Below w.heap.size w w5) := B.out.trans (hb5.mono B.out.size)
        clear hb5
        go_wp2_with fail
        refine (lSame a4 a n n c4 cap X4 X bs bs w5 N4.out (HN.out.1.below B.out) ok ok).mono ?_
        rintro e w6 ⟨rfl, hb6⟩
        rw [show decide (bs = bs) = true from decide_eq_true rfl]
        replace B : Hid (Below w.heap.size w w6) := B.out.trans (hb6.mono B.out.size)
        clear hb6
        go_wp2
        go_meet
        case rel => exact B
      case rest =>
        go_wp2
        go_loopw [141] (fun j w' => ∃ q : Nat, q ≤ mn ∧ j = .int .i64 q ∧ Hid ((∀ m ∈ ms.take q, wrongM m = 0) ∧ Below w.heap.size w w')) (fun j _ => mn - (intOf j).toNat)
        case atStart => exact ⟨0, Nat.zero_le _, rfl, (fun m hm => by simp at hm), hcut.out⟩
        case round =>
          obtain ⟨q, hq, rfl, hH⟩ := hrel
          by_cases hlt : q < mn
          · have hqU : q < U.length := by have := HN.out.2.2.2.2.1.n; omega
            have hqM : q < ms.length := by rw [← HN.out.2.2.2.2.1.says, List.length_map]; exact hqU
            have hMq : ms[q] = stripM U[q] := by
              have : ms = U.map stripM := HN.out.2.2.2.2.1.says.symm
              subst this
              rw [List.getElem_map]
            have HE : Hid (wrongM (stripM U[q]) = 0 → ∀ m ∈ ms.take (q + 1), wrongM m = 0) := fun h0 m hm => by
              rw [take_snoc hqM] at hm
              rcases List.mem_append.1 hm with hm | hm
              · exact hH.out.1 m hm
              · rw [List.mem_singleton.1 hm, hMq]; exact h0
            have hpU := (HN.out.2.2.2.2.1.parts _ (List.getElem_mem hqU)).1.below hH.out.2
            have hpL := HN.out.2.2.2.2.2 _ (List.getElem_mem hqU)
            rcases HN.out.2.2.2.2.1.row.below hH.out.2 with h0 | ⟨g, o, rfl, hg, hc⟩
            · rw [h0] at hqU; simp at hqU
            have d0 := hc q hqU 0 _ rfl
            have d1 := hc q hqU 1 _ rfl
            have d2 := hc q hqU 2 _ rfl
            have d3 := hc q hqU 3 _ rfl
            clear hc hMq
            generalize U[q] = x at *
            obtain ⟨kd, dd, hs, ⟨ax, cx⟩, l⟩ := x
            simp only [stripM, Nat.add_zero] at d0 d1 d2 d3 hpU hpL HE
            obtain ⟨ll, HLl⟩ : ∃ ll, Hid (l.length = ll) := ⟨_, rfl⟩
            rw [HLl.out] at d3
            have HQ : Hid (PartsAt wr ax l ∧ l.length ≤ 9223372036854775807 ∧ Below w.heap.size w wr) := ⟨hpU, hpL, hH.out.2⟩
            clear hpU hpL
            have hbA := below1 wr (.cells #[.int .i64 kd, .int .i64 dd, .int .i64 hs, .slice ax ll cx] 43)
            go_wp2_with fail
            refine (refWrong_any kd dd hs ax l cx ll _ HLl.out.symm HQ.out.2.1 (HQ.out.1.below hbA)).mono ?_
            rw [wrong_same9]
            rintro e w8 ⟨rfl, hb8⟩
            have HB8 : Hid (Below w.heap.size w w8) := HQ.out.2.2.trans ((hbA.trans (hb8.mono hbA.size)).mono HQ.out.2.2.size)
            clear d0 d1 d2 d3 hbA hb8
            by_cases hw : wrongM (kd, dd, hs, l) = 0
            · have HF : Hid (∀ m ∈ ms.take (q + 1), wrongM m = 0) := HE.out hw
              rw [hw]
              clear hw
              go_wp2
              go_roundw
              case rel => exact ⟨q + 1, by omega, by go_num, HF.out, HB8.out⟩
              case measure => simp [intOf]; omega
            · generalize wrongM (kd, dd, hs, l) = y at *
              have hd : (y != 0) = true := by simpa using hw
              go_wp2
              go_ret
              exact ⟨rfl, HB8.out⟩
          · have hall : ∀ m ∈ ms, wrongM m = 0 := by
              have h1 := hH.out.1
              rwa [List.take_of_length_le (by rw [← HN.out.2.2.2.2.1.says, List.length_map]; have := HN.out.2.2.2.2.1.n; omega)] at h1
            have h64 : ∀ m ∈ ms, Int64M m := fun m hm => int64_ok (hall m hm)
            have okS := ok.send hall
            replace B : Hid (Below w.heap.size w wr) := hH.out.2
            clear hH
            go_wp2_with fail
            refine (lSend a ma n cap mn mc X bs U ms wr (HN.out.1.below B.out) ok (HN.out.2.2.2.2.1.below B.out) h64).mono ?_
            rintro e w8 ⟨a8, c8, X8, rfl, H8, hb8⟩
            replace B : Hid (Below w.heap.size w w8) := B.out.trans (hb8.mono B.out.size)
            have N8 : Hid (NF w8 a8 (sendN bs ms).length X8 (sendN bs ms)) := H8
            clear H8 hb8
            go_wp2_with fail
            refine (refSend_any (fun _ => False) a ma n cap mn mc X bs U ms w8 (fun b hb => hb.elim) (HN.out.1.below B.out) (HN.out.2.2.2.2.1.below B.out) (HN.out.1.few ok).1 ?_ h64).mono ?_
            · rw [← HN.out.2.2.2.2.1.says, List.length_map]; have := HN.out.2.2.2.2.1.n; omega
            rintro e w9 ⟨v9, rfl, ⟨a9, n9, c9, X9, rfl, H9⟩, hb9⟩
            replace B : Hid (Below w.heap.size w w9) := B.out.trans (hb9.mono B.out.size)
            replace N8 : Hid (NF w9 a8 (sendN bs ms).length X8 (sendN bs ms)) := N8.out.below hb9
            have N9 : Hid (NF w9 a9 n9 X9 (sendN bs ms)) := H9
            clear H9 hb9
            generalize sendN bs ms = L at *
            go_wp2_with fail
            refine (lSame a8 a9 L.length n9 c8 c9 X8 X9 L L w9 N8.out N9.out okS okS).mono ?_
            rintro e w10 ⟨rfl, hb10⟩
            rw [show decide (L = L) = true from decide_eq_true rfl]
            replace B : Hid (Below w.heap.size w w10) := B.out.trans (hb10.mono B.out.size)
            clear hb10
            go_wp2
            go_ret
            exact ⟨rfl, B.out⟩

end Go.Proofs.Ytmjekpdgmdpndaa
