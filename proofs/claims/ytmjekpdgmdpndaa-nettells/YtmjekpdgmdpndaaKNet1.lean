/- What net.Send, Take and Twice do. -/
import Derived.Test.YtmjekpdgmdpndaaKJ22
import Derived.Test.YtmjekpdgmdpndaaKWire7
namespace Go.Proofs.Ytmjekpdgmdpndaa
open Go.RowKit
attribute [local go_sem ↓] Go.wp_at_zero Go.wp_at_succ

theorem NetO.len {w : World} {base : Nat} {v : Value} {bs : List (List Nat)} (h : NetO w base v bs) : ∃ X : List XN, X.length = bs.length ∧ OwnL 57 1 encN w base v X ∧ X.map (·.2) = bs ∧ (∀ x ∈ X, BytesT base w x.1.1 x.2) ∧ ∀ x ∈ X, x.2.length ≤ x.1.2 ∧ x.1.2 ≤ maxLen := by
  obtain ⟨X, h1, h2, h3, h4⟩ := h
  exact ⟨X, by rw [← h2, List.length_map], h1, h2, h3, h4⟩

/-- A net with a message once more. -/
def twiceN (bs : List (List Nat)) (i : Int) : List (List Nat) × Int :=
  if 0 ≤ i ∧ i < (bs.length : Nat) then (if bs.length < 24 then bs ++ (bs[i.toNat]?).toList else bs, 0) else (bs, 6)

set_option maxRecDepth 20000 in
set_option maxHeartbeats 1000000 in
theorem netTwice_any (R : Nat → Prop) (a : Option Addr) (n cap : Nat) (X : List XN) (bs : List (List Nat)) (i : Int) (w : World) (hN : NetF R w a n X bs) (hl : X.length ≤ 1000000) (hlb : ∀ x ∈ X, x.2.length ≤ 140737488355328) :
    Calls Try.prog 17 #[.slice a n cap, .int .i64 i] w fun e w' => ∃ v, e = .returned (.tuple #[v, .int .i64 (twiceN bs i).2]) ∧ NetO w' w.heap.size v (twiceN bs i).1 ∧ Below w.heap.size w w' := by
  have HN : Hid (NetF R w a n X bs ∧ (∀ x ∈ X, x.2.length ≤ 140737488355328) ∧ n = X.length ∧ bs.length = n) := ⟨hN, hlb, hN.n, by rw [← hN.says, List.length_map, hN.n]⟩
  have hXl : X.length ≤ 1000000 := hl
  have HE : Hid (bs.length = n) := HN.out.2.2.2
  clear hN hlb hl
  go_enter Try.func17, Try.ntmps17
  go_wp2_with fail
  refine (netOwn_any R a n cap X bs w HN.out.1 hXl HN.out.2.1).mono ?_
  rintro e w1 ⟨v1, rfl, hO1, hb1⟩
  obtain ⟨Z, hZl, z1, z2, z3, z4⟩ := hO1.len
  obtain ⟨av, nv, cv, rfl⟩ := z1.slice lenN
  have hnv : nv = n := by have := (z1.at lenN).2.1; have := HE.out; omega
  subst hnv
  have HO : Hid (NetO w1 w.heap.size (.slice av nv cv) bs ∧ Below w.heap.size w w1) := ⟨hO1, hb1⟩
  have HZ : Hid (OwnL 57 1 encN w1 w.heap.size (.slice av nv cv) Z ∧ Z.map (·.2) = bs ∧ (∀ x ∈ Z, BytesT w.heap.size w1 x.1.1 x.2) ∧ (∀ x ∈ Z, x.2.length ≤ x.1.2 ∧ x.1.2 ≤ maxLen) ∧ Z.length ≤ 1000000) := ⟨z1, z2, z3, z4, by have := HE.out; have := HN.out.2.2.1; omega⟩
  clear hO1 hb1 z1 z2 z3 z4 hZl
  go_wp2_with fail
  refine (hasPlace_any a nv cap i w1).mono ?_
  rintro e w2 ⟨rfl, rfl⟩
  by_cases c : 0 ≤ i ∧ i < (nv : Nat)
  · obtain ⟨k, rfl⟩ : ∃ k : Nat, i = (k : Int) := ⟨i.toNat, by omega⟩
    have hk : k < nv := by omega
    have e1 : decide (0 ≤ (k : Int) ∧ (k : Int) < (nv : Nat)) = true := decide_eq_true c
    have hc1 : 0 ≤ (k : Int) ∧ (k : Int) < (bs.length : Nat) := by have := HE.out; omega
    rw [e1]
    clear e1 c
    go_wp2_with fail
    refine (hasRoom_any av nv cv w2).mono ?_
    rintro e w3 ⟨rfl, rfl⟩
    by_cases h24 : nv < 24
    · have e2 : decide (nv < 24) = true := decide_eq_true h24
      have HT : Hid (twiceN bs (k : Int) = (bs ++ (bs[((k : Int)).toNat]?).toList, 0)) := by show _ = _; unfold twiceN; rw [if_pos hc1, if_pos (by rw [HE.out]; exact h24)]
      clear hc1
      rw [e2]
      have hkX : k < X.length := by have := HN.out.2.2.1; omega
      have HG : Hid (bs[((k : Int)).toNat]? = some X[k].2) := by
        show _ = _
        have h := HN.out.1.says
        subst h
        simp [hkX]
      have hXB := ((HN.out.1.bytes _ (List.getElem_mem hkX)).below HO.out.2).1
      have hXc := HN.out.2.1 _ (List.getElem_mem hkX)
      rcases HN.out.1.row.below HO.out.2 with h0 | ⟨g, o, rfl, hg, hc⟩
      · rw [h0] at hkX; simp at hkX
      have d0 := hc k hkX 0 _ rfl
      generalize X[k] = x at *
      obtain ⟨⟨ax, cx⟩, l⟩ := x
      simp only [Nat.mul_one, Nat.add_zero] at d0 hXB hXc HG
      obtain ⟨ln, HLL⟩ : ∃ ln, Hid (l.length = ln) := ⟨_, rfl⟩
      rw [HLL.out] at d0
      have HQ : Hid (BytesAt w3 ax l ∧ l.length ≤ 140737488355328) := ⟨hXB, hXc⟩
      clear hXB hXc hc e2
      go_wp2_with fail
      refine (cloneB_any ax l cx ln w3 HLL.out.symm HQ.out.2 HQ.out.1).mono ?_
      rintro e w5 ⟨a5, c5, rfl, hT5, hcp5, hb5⟩
      have HT5 : Hid (BytesT w3.heap.size w5 a5 l ∧ (l.length ≤ c5 ∧ c5 ≤ maxLen) ∧ Below w3.heap.size w3 w5) := ⟨hT5, hcp5, hb5⟩
      have hs3 := HO.out.2.size
      have hs5 := hb5.size
      have hZl := HZ.out.2.2.2.2
      clear hT5 hcp5 hb5 d0
      go_wp2_with (at_builtin; refine wpList_append_listB lenN oneN Try.underlying48 infoBs rfl (by decide) _ rfl _ _ rfl w.heap.size (.slice av nv cv) Z rfl ((HZ.out.1.below HT5.out.2.2 (Nat.le_refl _)).below (below1 w5 _) (Nat.le_refl _)) (some ⟨w5.heap.size, 0, none⟩) 1 1 [((a5, c5), l)] rfl rfl (RowAt.one (Blk.new w5 _ _) (by simp [encN, HLL.out])) (by unfold maxLen; simp; omega) (by simp; omega) (by simp; omega) ?_; intro a6 n6 c6 w6 hown6 hn6 hgrow6 hat6; clear hn6)
      have HF : Hid (NetO w6 w.heap.size (.slice a6 n6 c6) (bs ++ (bs[((k : Int)).toNat]?).toList) ∧ Below w.heap.size w w6) := by
        have hoW := (HZ.out.1.below HT5.out.2.2 (Nat.le_refl _)).below (below1 w5 (.cells #[.slice a5 ln c5] 57)) (Nat.le_refl _)
        refine ⟨?_, ((HO.out.2.trans (HT5.out.2.2.mono hs3)).alloc (by omega) _).grown hgrow6 (by simp; omega) HZ.out.1.base⟩
        rw [HG.out]
        exact NetO.snoc (x := ((a5, c5), l)) HZ.out.2.1 HZ.out.2.2.1 HZ.out.2.2.2.1 ((Calm.below HT5.out.2.2 (Nat.le_refl _)).trans (Calm.alloc _ _ _)) hoW hgrow6 hown6 ((HT5.out.1.mono hs3).calm (Calm.alloc _ _ _)) HT5.out.2.1
      clear hown6 hgrow6 hat6
      go_wp2
      refine bodyPost_ret (v := .tuple #[.slice a6 n6 c6, .int .i64 0]) ?_ rfl ⟨_, by rw [HT.out], by rw [HT.out]; exact HF.out.1, HF.out.2⟩
      simp [results, Try.results17, go_sem]
    · have e2 : decide (nv < 24) = false := decide_eq_false h24
      have HT : Hid (twiceN bs (k : Int) = (bs, 0)) := by show _ = _; unfold twiceN; rw [if_pos hc1, if_neg (by rw [HE.out]; exact h24)]
      clear hc1
      rw [e2]
      clear e2
      go_wp2
      refine bodyPost_ret (v := .tuple #[.slice av nv cv, .int .i64 0]) ?_ rfl ⟨_, by rw [HT.out], by rw [HT.out]; exact HO.out.1, HO.out.2⟩
      simp [results, Try.results17, go_sem]
  · have e1 : decide (0 ≤ i ∧ i < (nv : Nat)) = false := decide_eq_false c
    have HT : Hid (twiceN bs i = (bs, 6)) := by show _ = _; unfold twiceN; rw [if_neg (by rw [HE.out]; exact c)]
    rw [e1]
    clear e1 c
    go_wp2
    refine bodyPost_ret (v := .tuple #[.slice av nv cv, .int .i64 6]) ?_ rfl ⟨_, by rw [HT.out], by rw [HT.out]; exact HO.out.1, HO.out.2⟩
    simp [results, Try.results17, go_sem]

set_option maxRecDepth 20000 in
set_option maxHeartbeats 2000000 in
theorem netSend_any (R : Nat → Prop) (na ma : Option Addr) (nn nc mn mc : Nat) (X : List XN) (bs : List (List Nat)) (U : List XM) (ms : List Q4) (w : World) (hN : NetF R w na nn X bs) (hM : MsgsF R w ma mn U ms) (hl : X.length ≤ 1000000) (hlb : ∀ x ∈ X, x.2.length ≤ 140737488355328) (h64 : ∀ m ∈ ms, Int64M m) :
    Calls Try.prog 21 #[.slice na nn nc, .slice ma mn mc] w fun e w' => ∃ v', e = .returned v' ∧ NetO w' w.heap.size v' (sendN bs ms) ∧ Below w.heap.size w w' := by
  have HN : Hid (NetF R w na nn X bs ∧ MsgsF R w ma mn U ms ∧ (∀ m ∈ ms, Int64M m) ∧ U.length = ms.length ∧ X.length = bs.length ∧ (∀ x ∈ X, x.2.length ≤ 140737488355328)) := ⟨hN, hM, h64, by rw [← hM.says, List.length_map], by rw [← hN.says, List.length_map], hlb⟩
  have hmu : Hid (mn = U.length ∧ mn = ms.length) := ⟨hM.n, by have h1 := hM.n; have h2 := HN.out.2.2.2.1; omega⟩
  clear hN hM h64 hlb
  go_enter Try.func21, Try.ntmps21
  go_wp2_with fail
  refine (netOwn_any R na nn nc X bs w HN.out.1 hl HN.out.2.2.2.2.2).mono ?_
  rintro e w1 ⟨v1, rfl, hO1, hb1⟩
  have HO : Hid (NetO w1 w.heap.size v1 bs ∧ Below w.heap.size w w1) := ⟨hO1, hb1⟩
  clear hO1 hb1
  go_wp2
  go_loopw [5, 12] (fun v i w' => ∃ k : Nat, k ≤ mn ∧ i = .int .i64 k ∧ (k = 0 ∨ X.length + k ≤ 24) ∧ Hid (NetO w' w.heap.size v (bs ++ (ms.take k).map fun m => bytesB m) ∧ Below w.heap.size w w')) (fun _ i _ => mn - (intOf i).toNat)
  case atStart => exact ⟨0, Nat.zero_le _, rfl, Or.inl rfl, by rw [List.take_zero, List.map_nil, List.append_nil]; exact HO⟩
  case round =>
    obtain ⟨k, hk, rfl, hroom, hH⟩ := hrel
    obtain ⟨Z, hZl, z1, z2, z3, z4⟩ := hH.out.1.len
    obtain ⟨av, nv, cv, rfl⟩ := z1.slice lenN
    have hlk : (ms.take k).length = k := by rw [List.length_take]; have := hmu.out.2; omega
    have hnv : Hid (nv = X.length + k) := by have h1 := (z1.at lenN).2.1; rw [List.length_append, List.length_map, hlk] at hZl; have h2 := HN.out.2.2.2.2.1; show _ = _; omega
    by_cases hlt : k < mn
    · have hkU : k < U.length := by have := hmu.out.1; omega
      have hkM : k < ms.length := by have := hmu.out.2; omega
      have hMk : ms[k] = stripM U[k] := by
        have : ms = U.map stripM := HN.out.2.1.says.symm
        subst this
        rw [List.getElem_map]
      have HE : Hid (bs ++ (ms.take (k + 1)).map (fun m => bytesB m) = bs ++ (ms.take k).map (fun m => bytesB m) ++ [bytesB (stripM U[k])]) := by
        show _ = _
        rw [take_snoc hkM, List.map_append, hMk, List.append_assoc]; rfl
      obtain ⟨g1, g2, g3, g4⟩ := HN.out.2.2.1 ms[k] (List.getElem_mem hkM)
      rw [hMk] at g1 g2 g3 g4
      have hq := (HN.out.2.1.parts _ (List.getElem_mem hkU)).1.below hH.out.2
      rcases HN.out.2.1.row.below hH.out.2 with h0 | ⟨g, o, rfl, hg, hc⟩
      · rw [h0] at hkU; simp at hkU
      have d0 := hc k hkU 0 _ rfl
      have d1 := hc k hkU 1 _ rfl
      have d2 := hc k hkU 2 _ rfl
      have d3 := hc k hkU 3 _ rfl
      have hsz := hH.out.2.size
      clear hc
      generalize hU : U[k] = x at *
      clear hMk hU
      obtain ⟨kd, dd, hs, ⟨ax, cx⟩, l⟩ := x
      simp only [stripM, Nat.add_zero] at d0 d1 d2 d3 hq g1 g2 g3 g4 HE
      obtain ⟨ln, HLL⟩ : ∃ ln, Hid (l.length = ln) := ⟨_, rfl⟩
      rw [HLL.out] at d3
      have HQ : Hid (PartsAt wr ax l ∧ Nums l ∧ l.length ≤ 1000000 ∧ NetO wr w.heap.size (.slice av nv cv) (bs ++ (ms.take k).map fun m => bytesB m) ∧ Below w.heap.size w wr) := ⟨hq, g3, g4, hH.out.1, hH.out.2⟩
      have HZ : Hid (OwnL 57 1 encN wr w.heap.size (.slice av nv cv) Z ∧ Z.map (·.2) = bs ++ ((ms.take k).map fun m => bytesB m) ∧ (∀ x ∈ Z, BytesT w.heap.size wr x.1.1 x.2) ∧ (∀ x ∈ Z, x.2.length ≤ x.1.2 ∧ x.1.2 ≤ maxLen) ∧ Z.length ≤ 2000000) := ⟨z1, z2, z3, z4, by rw [hZl, List.length_append, List.length_map, hlk]; have := HN.out.2.2.2.2.1; omega⟩
      clear hq g3 g4 hH z1 z2 z3 z4 hZl hlk
      have hbA := below1 wr (.cells #[.int .i64 kd, .int .i64 dd, .int .i64 hs, .slice ax ln cx] 43)
      have hBm : Blk (wr.alloc (.cells #[.int .i64 kd, .int .i64 dd, .int .i64 hs, .slice ax ln cx] 43)) wr.heap.size #[.int .i64 kd, .int .i64 dd, .int .i64 hs, .slice ax ln cx] 43 := Blk.new _ _ _
      go_wp2_with fail
      refine (hasRoom_any av nv cv _).mono ?_
      rintro e w2 ⟨rfl, rfl⟩
      generalize wr.alloc (.cells #[.int .i64 kd, .int .i64 dd, .int .i64 hs, .slice ax ln cx] 43) = V at *
      have HV : Hid (Below wr.heap.size wr V ∧ Blk V wr.heap.size #[.int .i64 kd, .int .i64 dd, .int .i64 hs, .slice ax ln cx] 43) := ⟨hbA, hBm⟩
      obtain ⟨m0', m1', m2', m3'⟩ := hBm.cells4
      clear hbA hBm
      by_cases h24 : nv < 24
      · have e2 : decide (nv < 24) = true := decide_eq_true h24
        rw [e2]
        clear e2 d0 d1 d2 d3
        go_wp2_with fail
        refine (bytes_any kd dd hs ax l cx ln V HLL.out.symm HQ.out.2.2.1 (HQ.out.1.below HV.out.1) g1 g2 HQ.out.2.1).mono ?_
        rintro e w5 ⟨v5, rfl, hB5, hb5⟩
        obtain ⟨a5, c5, rfl, hT5, hcp5⟩ := hB5.typed
        have hs4 := HV.out.1.size
        have HT5 : Hid (BytesT V.heap.size w5 a5 (bytesB (kd, dd, hs, l)) ∧ ((bytesB (kd, dd, hs, l)).length ≤ c5 ∧ c5 ≤ maxLen) ∧ Below wr.heap.size wr w5) := ⟨hT5, hcp5, HV.out.1.trans (hb5.mono hs4)⟩
        have hs5 := HT5.out.2.2.size
        have hZl := HZ.out.2.2.2.2
        clear hB5 hT5 hb5 hcp5 m0' m1' m2' m3' g1 g2
        go_wp2_with (at_builtin; refine wpList_append_listB lenN oneN Try.underlying48 infoBs rfl (by decide) _ rfl _ _ rfl w.heap.size (.slice av nv cv) Z rfl ((HZ.out.1.below HT5.out.2.2 (Nat.le_refl _)).below (below1 w5 _) (Nat.le_refl _)) (some ⟨w5.heap.size, 0, none⟩) 1 1 [((a5, c5), bytesB (kd, dd, hs, l))] rfl rfl (RowAt.one (Blk.new w5 _ _) rfl) (by unfold maxLen; simp; omega) (by simp; omega) (by simp; omega) ?_; intro a6 n6 c6 w6 hown6 hn6 hgrow6 hat6; clear hn6)
        have HF : Hid (NetO w6 w.heap.size (.slice a6 n6 c6) (bs ++ (ms.take (k + 1)).map fun m => bytesB m) ∧ Below w.heap.size w w6) := by
          have hoW := (HZ.out.1.below HT5.out.2.2 (Nat.le_refl _)).below (below1 w5 (.cells #[.slice a5 (bytesB (kd, dd, hs, l)).length c5] 57)) (Nat.le_refl _)
          refine ⟨?_, ((HQ.out.2.2.2.2.trans (HT5.out.2.2.mono hsz)).alloc (by omega) _).grown hgrow6 (by simp; omega) HZ.out.1.base⟩
          rw [HE.out]
          exact NetO.snoc (x := ((a5, c5), bytesB (kd, dd, hs, l))) HZ.out.2.1 HZ.out.2.2.1 HZ.out.2.2.2.1 ((Calm.below HT5.out.2.2 (Nat.le_refl _)).trans (Calm.alloc _ _ _)) hoW hgrow6 hown6 ((HT5.out.1.mono (by omega)).calm (Calm.alloc _ _ _)) HT5.out.2.1
        have hr2 : X.length + (k + 1) ≤ 24 := by have := hnv.out; omega
        clear hown6 hgrow6 hat6
        go_wp2
        go_roundw
        case rel => exact ⟨k + 1, by omega, by go_num, Or.inr hr2, HF⟩
        case measure => simp [intOf]; omega
      · have e2 : decide (nv < 24) = false := decide_eq_false h24
        rw [e2]
        have HF : Hid (NetO V w.heap.size (.slice av nv cv) (sendN bs ms) ∧ Below w.heap.size w V) := by
          have e : (ms.take k).map (fun m => bytesB m) = (ms.map fun m => bytesB m).take (24 - bs.length) := by
            rw [← List.map_take]
            rcases Nat.eq_zero_or_pos k with h0 | h0
            · subst h0
              have : 24 - bs.length = 0 := by have h1 := HN.out.2.2.2.2.1; have h2 := hnv.out; omega
              rw [this]
            · have : k = 24 - bs.length := by have h1 := HN.out.2.2.2.2.1; have h2 := hnv.out; omega
              rw [this]
          have hq := HQ.out.2.2.2.1
          rw [e] at hq
          exact ⟨hq.below HV.out.1, HQ.out.2.2.2.2.trans (HV.out.1.mono hsz)⟩
        clear e2 d0 d1 d2 d3
        go_wp2
        go_ret
        exact ⟨_, rfl, HF.out.1, HF.out.2⟩
    · have HF : Hid (NetO wr w.heap.size (.slice av nv cv) (sendN bs ms) ∧ Below w.heap.size w wr) := by
        have hq := hH.out
        have e : (ms.take k).map (fun m => bytesB m) = (ms.map fun m => bytesB m).take (24 - bs.length) := by
          have h3 := hmu.out.2
          have h1 := HN.out.2.2.2.2.1
          rcases Nat.eq_zero_or_pos k with h0 | h0
          · have : ms = [] := List.eq_nil_of_length_eq_zero (by omega)
            rw [this]; simp
          · rw [List.take_of_length_le (by omega), List.take_of_length_le (by rw [List.length_map]; omega)]
        rw [e] at hq
        exact hq
      clear hH hnv z1 z2 z3 z4
      go_wp2
      go_ret
      exact ⟨_, rfl, HF.out.1, HF.out.2⟩

end Go.Proofs.Ytmjekpdgmdpndaa
