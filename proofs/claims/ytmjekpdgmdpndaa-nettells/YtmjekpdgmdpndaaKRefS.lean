/- What the document's Send does. -/
import Derived.Test.YtmjekpdgmdpndaaKRefZ
import Derived.Test.YtmjekpdgmdpndaaKFresh
namespace Go.Proofs.Ytmjekpdgmdpndaa
open Go.RowKit
attribute [local go_sem ↓] Go.wp_at_zero Go.wp_at_succ

/-- Messages of which Go's int tells all numbers. -/
def Int64M (m : Q4) : Prop := (-9223372036854775808 ≤ m.2.1 ∧ m.2.1 ≤ 9223372036854775807) ∧ (-9223372036854775808 ≤ m.2.2.1 ∧ m.2.2.1 ≤ 9223372036854775807) ∧ Nums m.2.2.2 ∧ m.2.2.2.length ≤ 1000000
/-- .. as many as there is room for. -/
def sendN (bs : List (List Nat)) (ms : List Q4) : List (List Nat) := bs ++ (ms.map fun m => bytesB m).take (24 - bs.length)
/-- What is put behind old messages. -/
structure SentF (R : Nat → Prop) (w w' : World) (base : Nat) (v : Value) (X Z : List XN) (zs : List (List Nat)) : Prop where
  own : OwnL 57 1 encN w' base v (X ++ Z)
  says : Z.map (·.2) = zs
  bytes : ∀ z ∈ Z, BytesT base w' z.1.1 z.2
  caps : ∀ z ∈ Z, z.2.length ≤ z.1.2 ∧ z.1.2 ≤ maxLen
  bel : Below w.heap.size w w'
theorem SentF.net {R : Nat → Prop} {w w' : World} {base : Nat} {a : Option Addr} {n c : Nat} {X Z : List XN} {bs zs : List (List Nat)} (H : SentF R w w' base (.slice a n c) X Z zs) (hX : X.map (·.2) = bs) (hb : ∀ x ∈ X, BytesR R w x.1.1 x.2) (hcp : ∀ x ∈ X, x.2.length ≤ x.1.2 ∧ x.1.2 ≤ maxLen) (hR : ∀ b, R b → b < base) : NetF R w' a n (X ++ Z) (bs ++ zs) := by
  have h1 := H.own.at lenN
  refine ⟨h1.2.1, h1.1, H.own.outR hR _, by rw [List.map_append, hX, H.says], fun x hx => ?_, fun x hx => (List.mem_append.1 hx).elim (hcp x) (H.caps x)⟩
  rcases List.mem_append.1 hx with hx | hx
  · exact (hb x hx).below H.bel
  · exact (H.bytes x hx).outR hR

set_option maxRecDepth 20000 in
set_option maxHeartbeats 2000000 in
theorem refSend_any (R : Nat → Prop) (na ma : Option Addr) (nn nc mn mc : Nat) (X : List XN) (bs : List (List Nat)) (U : List XM) (ms : List Q4) (w : World) (hR : ∀ b, R b → b < w.heap.size) (hN : NetF R w na nn X bs) (hM : MsgsF R w ma mn U ms) (hl : X.length ≤ 1000000) (hml : ms.length ≤ 9223372036854775807) (h64 : ∀ m ∈ ms, Int64M m) :
    Calls Try.prog 22 #[.slice na nn nc, .slice ma mn mc] w fun e w' => ∃ v', e = .returned v' ∧ NetV R w' v' (sendN bs ms) ∧ Below w.heap.size w w' := by
  have HN : Hid (NetF R w na nn X bs ∧ MsgsF R w ma mn U ms ∧ (∀ m ∈ ms, Int64M m) ∧ (∀ b, R b → b < w.heap.size) ∧ U.length = ms.length ∧ X.length = bs.length) := ⟨hN, hM, h64, hR, by rw [← hM.says, List.length_map], by rw [← hN.says, List.length_map]⟩
  have hmn : mn ≤ 9223372036854775807 := by have h1 := hM.n; have h2 := HN.out.2.2.2.2.1; omega
  have hmu : Hid (mn = U.length ∧ mn = ms.length) := ⟨hM.n, by have h1 := hM.n; have h2 := HN.out.2.2.2.2.1; omega⟩
  clear hN hM h64 hR hml
  go_enter Try.func22, Try.ntmps22
  go_wp2_with (at_builtin; refine wpList_append_listB lenN oneN Try.underlying48 infoBs rfl (by decide) _ rfl _ _ rfl w.heap.size (.slice (some ⟨w.heap.size, 0, none⟩) 0 0) [] rfl (OwnL.made0 (Blk.new _ _ _) (Nat.le_refl _)) na nn nc X rfl HN.out.1.n (HN.out.1.row.below (below1 w _)) (by unfold maxLen; simp; omega) (by simp; omega) (by simp) ?_; intro a4 n4 c4 w4 hown4 hn4 hgrow4 hat4; clear hn4)
  have hS4 : SentF R w w4 w.heap.size (.slice a4 n4 c4) X [] [] := ⟨by rw [List.append_nil]; exact hown4, rfl, (fun z hz => by cases hz), (fun z hz => by cases hz), (below1 w _).grown hgrow4 (by simp) (fun k hk => by cases hk; exact Nat.le_refl _)⟩
  have HS4 : Hid (SentF R w w4 w.heap.size (.slice a4 n4 c4) X [] []) := hS4
  clear hown4 hgrow4 hat4 hS4
  go_wp2
  go_loopw [0, 5] (fun v i w' => ∃ (k : Nat) (Z : List XN), k ≤ mn ∧ i = .int .i64 k ∧ Z.length = k ∧ (k = 0 ∨ X.length + k ≤ 24) ∧ Hid (SentF R w w' w.heap.size v X Z ((ms.take k).map fun m => bytesB m))) (fun _ i _ => mn - (intOf i).toNat)
  case atStart => exact ⟨0, [], Nat.zero_le _, rfl, rfl, Or.inl rfl, HS4.out⟩
  case round =>
    obtain ⟨k, Z, hk, rfl, hZl, hroom, hH⟩ := hrel
    obtain ⟨av, nv, cv, rfl⟩ := hH.out.own.slice lenN
    have hnv : Hid (nv = X.length + k) := by have := (hH.out.own.at lenN).2.1; rw [List.length_append, hZl] at this; exact this
    by_cases hlt : k < mn
    · by_cases h24 : nv < 24
      · have hkU : k < U.length := by have := hmu.out.1; omega
        have hkM : k < ms.length := by have := hmu.out.2; omega
        have hMk : ms[k] = stripM U[k] := by
          have : ms = U.map stripM := HN.out.2.1.says.symm
          subst this
          rw [List.getElem_map]
        have HE : Hid ((ms.take (k + 1)).map (fun m => bytesB m) = (ms.take k).map (fun m => bytesB m) ++ [bytesB (stripM U[k])]) := by
          show _ = _
          rw [take_snoc hkM, List.map_append, hMk]; rfl
        obtain ⟨g1, g2, g3, g4⟩ := HN.out.2.2.1 ms[k] (List.getElem_mem hkM)
        rw [hMk] at g1 g2 g3 g4
        have hq := (HN.out.2.1.parts _ (List.getElem_mem hkU)).1.below hH.out.bel
        rcases HN.out.2.1.row.below hH.out.bel with h0 | ⟨g, o, rfl, hg, hc⟩
        · rw [h0] at hkU; simp at hkU
        have d0 := hc k hkU 0 _ rfl
        have d1 := hc k hkU 1 _ rfl
        have d2 := hc k hkU 2 _ rfl
        have d3 := hc k hkU 3 _ rfl
        have hsz := hH.out.bel.size
        clear hc
        generalize hU : U[k] = x at *
        clear hMk hU
        obtain ⟨kd, dd, hs, ⟨ax, cx⟩, l⟩ := x
        simp only [stripM, Nat.add_zero] at d0 d1 d2 d3 hq g1 g2 g3 g4 HE
        obtain ⟨ln, HLL⟩ : ∃ ln, Hid (l.length = ln) := ⟨_, rfl⟩
        rw [HLL.out] at d3
        have HQ : Hid (PartsAt wr ax l ∧ Nums l ∧ l.length ≤ 1000000 ∧ SentF R w wr w.heap.size (.slice av nv cv) X Z ((ms.take k).map fun m => bytesB m)) := ⟨hq, g3, g4, hH.out⟩
        have hlen : (X ++ Z).length ≤ 23 := by rw [List.length_append, hZl]; have := hnv.out; omega
        clear hq g3 g4 hH hnv
        go_wp2_with fail
        refine (refBytes_any kd dd hs ax l cx ln wr HLL.out.symm HQ.out.2.2.1 HQ.out.1 g1 g2 HQ.out.2.1).mono ?_
        rintro e w5 ⟨v5, rfl, hB5, hb5⟩
        obtain ⟨a5, c5, rfl, hT5, hcp5⟩ := hB5.typed
        have HT5 : Hid (BytesT wr.heap.size w5 a5 (bytesB (kd, dd, hs, l)) ∧ Below wr.heap.size wr w5 ∧ ((bytesB (kd, dd, hs, l)).length ≤ c5 ∧ c5 ≤ maxLen)) := ⟨hT5, hb5, hcp5⟩
        have hs5 := hb5.size
        clear hB5 hT5 hb5 hcp5 d0 d1 d2 d3 g1 g2
        go_wp2_with (at_builtin; refine wpList_append_listB lenN oneN Try.underlying48 infoBs rfl (by decide) _ rfl _ _ rfl w.heap.size (.slice av nv cv) (X ++ Z) rfl ((HQ.out.2.2.2.own.below HT5.out.2.1 (Nat.le_refl _)).below (below1 w5 _) (Nat.le_refl _)) (some ⟨w5.heap.size, 0, none⟩) 1 1 [((a5, c5), bytesB (kd, dd, hs, l))] rfl rfl (RowAt.one (Blk.new w5 _ _) rfl) (by unfold maxLen; simp; simp at hlen; omega) (by simp; simp at hlen; omega) (by simp; omega) ?_; intro a6 n6 c6 w6 hown6 hn6 hgrow6 hat6; clear hn6)
        have hoW := (HQ.out.2.2.2.own.below HT5.out.2.1 (Nat.le_refl _)).below (below1 w5 (.cells #[.slice a5 (bytesB (kd, dd, hs, l)).length c5] 57)) (Nat.le_refl _)
        have HF : Hid (SentF R w w6 w.heap.size (.slice a6 n6 c6) X (Z ++ [((a5, c5), bytesB (kd, dd, hs, l))]) ((ms.take (k + 1)).map fun m => bytesB m)) := by
          have hC : Calm 5 w5 w6 := (Calm.alloc _ _ _).trans (Calm.grown hgrow6 (hoW.grownT (by decide)))
          refine ⟨by rw [← List.append_assoc]; exact hown6, by rw [List.map_append, HQ.out.2.2.2.says, HE.out]; rfl, fun z hz => ?_, fun z hz => (List.mem_append.1 hz).elim (HQ.out.2.2.2.caps z) (fun h => by rw [List.mem_singleton.1 h]; exact HT5.out.2.2), ((HQ.out.2.2.2.bel.trans (HT5.out.2.1.mono hsz)).alloc (by omega) _).grown hgrow6 (by simp; omega) HQ.out.2.2.2.own.base⟩
          rcases List.mem_append.1 hz with hz | hz
          · exact ((HQ.out.2.2.2.bytes z hz).calm (Calm.below HT5.out.2.1 (Nat.le_refl _))).calm hC
          · rw [List.mem_singleton.1 hz]; exact (HT5.out.1.mono hsz).calm hC
        have hZ2 : (Z ++ [(((a5, c5), bytesB (kd, dd, hs, l)) : XN)]).length = k + 1 := by rw [List.length_append, hZl]; rfl
        have hr2 : X.length + (k + 1) ≤ 24 := by rw [List.length_append, hZl] at hlen; omega
        clear hoW hown6 hgrow6 hat6
        go_wp2
        go_roundw
        case rel => exact ⟨k + 1, _, by omega, by go_num, hZ2, Or.inr hr2, HF⟩
        case measure => simp [intOf]; omega
      · have HF : Hid (NetV R wr (.slice av nv cv) (sendN bs ms) ∧ Below w.heap.size w wr) := by
          have hq := hH.out.net HN.out.1.says HN.out.1.bytes HN.out.1.caps HN.out.2.2.2.1
          have e : (ms.take k).map (fun m => bytesB m) = (ms.map fun m => bytesB m).take (24 - bs.length) := by
            rw [← List.map_take]
            have h1 := HN.out.2.2.2.2.2
            have h2 := hnv.out
            have : k = 24 - bs.length := by omega
            rw [this]
          rw [e] at hq
          exact ⟨⟨av, nv, cv, _, rfl, hq⟩, hH.out.bel⟩
        have h24' : ¬ ((nv : Int) < 24) := by omega
        clear hH hnv
        go_wp2
        go_ret
        exact ⟨_, rfl, HF.out.1, HF.out.2⟩
    · have HF : Hid (NetV R wr (.slice av nv cv) (sendN bs ms) ∧ Below w.heap.size w wr) := by
        have hq := hH.out.net HN.out.1.says HN.out.1.bytes HN.out.1.caps HN.out.2.2.2.1
        have e : (ms.take k).map (fun m => bytesB m) = (ms.map fun m => bytesB m).take (24 - bs.length) := by
          have h3 := hmu.out.2
          have h1 := HN.out.2.2.2.2.2
          rw [List.take_of_length_le (by omega), List.take_of_length_le (by rw [List.length_map]; omega)]
        rw [e] at hq
        exact ⟨⟨av, nv, cv, _, rfl, hq⟩, hH.out.bel⟩
      clear hH hnv
      go_wp2
      go_ret
      exact ⟨_, rfl, HF.out.1, HF.out.2⟩

end Go.Proofs.Ytmjekpdgmdpndaa
