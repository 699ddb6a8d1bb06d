/- What the document's Head and Decided do, called at a log that lies in memory. -/
import Derived.Test.YtbdkkajmafjfbabRefH
import Derived.Test.YtbdkkajmafjfbabLog7
namespace Go.Proofs.Ytbdkkajmafjfbab
open Go.RowKit
attribute [local go_sem ↓] Go.wp_at_zero Go.wp_at_succ

/-- What the inner loop leaves of what is open. -/
def kfil (kd dd : Int) (D : List D2) : List D2 := if kd = 6 then dropD D dd else D
theorem kfil_yes {kd dd : Int} {D : List D2} {j : Nat} (h : j < D.length) (hk : ¬ kd = 6 ∨ ¬ D[j].1 = dd) : kfil kd dd (D.take (j + 1)) = kfil kd dd (D.take j) ++ [D[j]] := by
  rw [take_snoc h]
  unfold kfil
  split
  · rename_i h6
    rcases hk with hk | hk
    · exact absurd h6 hk
    · unfold dropD
      rw [List.filter_append, List.filter_cons_of_pos (by simp [hk])]
      rfl
  · rfl
theorem kfil_no {dd : Int} {D : List D2} {j : Nat} (h : j < D.length) (hk : D[j].1 = dd) : kfil 6 dd (D.take (j + 1)) = kfil 6 dd (D.take j) := by
  rw [take_snoc h]
  unfold kfil
  rw [if_pos rfl, if_pos rfl]
  unfold dropD
  rw [List.filter_append, List.filter_cons_of_neg (by simp [hk])]
  simp
theorem kfil_len (kd dd : Int) (D : List D2) : (kfil kd dd D).length ≤ D.length := by
  unfold kfil
  split
  · exact List.length_filter_le _ _
  · exact Nat.le_refl _
theorem gstep_kfil (t : Int) (D : List D2) (kd dd : Int) (l : List P3) : gstep (t, D) (kd, dd, l) = (if kd = 4 then t + 1 else t, if kd = 5 then kfil kd dd D ++ [(dd, l)] else kfil kd dd D) := by
  unfold gstep kfil
  simp only
  by_cases h4 : kd = 4
  · simp [h4]
  · by_cases h5 : kd = 5
    · simp [h5]
    · by_cases h6 : kd = 6
      · simp [h6]
      · simp [h4, h5, h6]

/-- On the way: block B holds the head g, whose log is the slice lv; parts lie in W0. -/
def TAt (W0 : World) (B base : Nat) (lv : Value) (w : World) (g : Int × List D2) : Prop :=
  ∃ (oa : Option Addr) (no oc : Nat) (XO : List XD),
    Blk w B #[lv, .int .i64 g.1, .int .i64 0, .slice oa no oc] 58 ∧ OwnL 79 4 encO w base (.slice oa no oc) XO ∧ (∀ x ∈ XO, PartsAt W0 x.2.1.1 x.2.2) ∧ XO.map stripD = g.2
structure InnerG (w W w' : World) (B : Nat) (hb : Array Value) (rv : Value) (rest : List XD) (D : List D2) : Prop where
  keep : Below W.heap.size W w'
  own : OwnL 79 4 encO w' W.heap.size rv rest
  parts : ∀ x ∈ rest, PartsAt w x.2.1.1 x.2.2
  says : rest.map stripD = D
  head : Blk w' B hb 58

set_option maxRecDepth 20000 in
set_option maxHeartbeats 4000000 in
theorem refHead_any (a : Option Addr) (X : List XL) (cap n : Nat) (w : World) (hn : n = X.length) (hl : X.length ≤ 1000000) (hp : RecsAt w a X) :
    Calls Try.prog 25 #[.slice a n cap] w fun e w' => ∃ v, e = .returned v ∧ HeadAt w' v (X.map stripL) (headB (X.map stripL)) ∧ Below w.heap.size w w' := by
  have HN : Hid (n = X.length ∧ RecsAt w a X) := ⟨hn, hp⟩
  have hnl : n ≤ 1000000 := by omega
  clear hn hp hl
  have hN2 : Blk ((w.alloc (.cells #[.slice none 0 0, .int .i64 0, .int .i64 0, .slice none 0 0] 58)).alloc (.cells #[.slice a n cap, .int .i64 0, .int .i64 0, .slice none 0 0] 58)) w.heap.size #[.slice none 0 0, .int .i64 0, .int .i64 0, .slice none 0 0] 58 := (Blk.new _ _ _).alloc _
  have hN3 : Blk ((w.alloc (.cells #[.slice none 0 0, .int .i64 0, .int .i64 0, .slice none 0 0] 58)).alloc (.cells #[.slice a n cap, .int .i64 0, .int .i64 0, .slice none 0 0] 58)) (w.heap.size + 1) #[.slice a n cap, .int .i64 0, .int .i64 0, .slice none 0 0] 58 := heap2 _ _ _
  have hBV := below2 w (.cells #[.slice none 0 0, .int .i64 0, .int .i64 0, .slice none 0 0] 58) (.cells #[.slice a n cap, .int .i64 0, .int .i64 0, .slice none 0 0] 58)
  have hsV : ((w.alloc (.cells #[.slice none 0 0, .int .i64 0, .int .i64 0, .slice none 0 0] 58)).alloc (.cells #[.slice a n cap, .int .i64 0, .int .i64 0, .slice none 0 0] 58)).heap.size = w.heap.size + 2 := by simp
  go_enter Try.func25, Try.ntmps25
  go_wp2
  generalize (w.alloc (.cells #[.slice none 0 0, .int .i64 0, .int .i64 0, .slice none 0 0] 58)).alloc (.cells #[.slice a n cap, .int .i64 0, .int .i64 0, .slice none 0 0] 58) = V at *
  have HV : Hid (Blk V w.heap.size #[.slice none 0 0, .int .i64 0, .int .i64 0, .slice none 0 0] 58 ∧ Below w.heap.size w V) := ⟨hN2, hBV⟩
  go_loopw [13] (fun i w' => ∃ k : Nat, k ≤ n ∧ i = .int .i64 k ∧ Hid (TAt w (w.heap.size + 1) (w.heap.size + 2) (.slice a n cap) w' (headB ((X.take k).map stripL)) ∧ Below (w.heap.size + 1) V w' ∧ w.heap.size + 2 ≤ w'.heap.size)) (fun i _ => n - (intOf i).toNat)
  case atStart => exact ⟨0, Nat.zero_le _, rfl, ⟨none, 0, 0, [], hN3, OwnL.nil _ _, (fun x hx => by cases hx), rfl⟩, Below.refl _ _, by omega⟩
  case round =>
    clear hN2 hN3
    obtain ⟨k, hk, rfl, hH⟩ := hrel
    by_cases hlt : k < n
    · have hkX : k < X.length := by have := HN.out.1; omega
      have hbw : Below w.heap.size w wr := HV.out.2.trans (hH.out.2.1.mono (by omega))
      obtain ⟨b, o, rfl, hb, c0, c1, c2, -⟩ := (HN.out.2.below hbw).get hkX
      have hq := HN.out.2.2 _ (List.getElem_mem hkX)
      have hinv : 0 ≤ (headB ((X.take k).map stripL)).1 ∧ (headB ((X.take k).map stripL)).1 ≤ k ∧ (headB ((X.take k).map stripL)).2.length ≤ k := by
        have := headB_inv_take (X.map stripL) (k := k) (by simp; omega)
        rwa [← List.map_take] at this
      have HS : Hid (headB ((X.take (k + 1)).map stripL) = gstep (headB ((X.take k).map stripL)) (stripL X[k])) := by
        show _ = _
        rw [map_take_succ hkX, headB_snoc]
      obtain ⟨hRA, hBR, hsR⟩ := hH.out
      clear hH
      generalize headB ((X.take k).map stripL) = h at *
      obtain ⟨t, DD⟩ := h
      obtain ⟨oa, no, oc, XR, hB, hR, hT, hD⟩ := hRA
      simp only at hB hD hinv
      generalize X[k] = x at *
      obtain ⟨kd, dd, ⟨ax, cx⟩, l⟩ := x
      have HS : Hid (headB ((X.take (k + 1)).map stripL) = gstep (t, DD) (kd, dd, l)) := HS
      rw [gstep_kfil] at HS
      simp only at c0 c1 c2 hq
      generalize hll : l.length = nl at *
      have HLL : Hid (l.length = nl) := hll
      clear hll
      have hnr := (hR.at lenO).2.1
      have hnrk : no ≤ k := by
        have h2 := congrArg List.length hD
        simp at h2
        omega
      have ht0 := hinv.1
      have ht1 : t ≤ 1000000 := by have := hinv.2.1; omega
      have hDl := hinv.2.2
      have hW2 : Below wr.heap.size wr (wr.alloc (.cells #[.int .i64 kd, .int .i64 dd, .slice ax nl cx] 45)) := below1 _ _
      have hr2 : Blk (wr.alloc (.cells #[.int .i64 kd, .int .i64 dd, .slice ax nl cx] 45)) wr.heap.size #[.int .i64 kd, .int .i64 dd, .slice ax nl cx] 45 := Blk.new _ _ _
      have hs2 : (wr.alloc (.cells #[.int .i64 kd, .int .i64 dd, .slice ax nl cx] 45)).heap.size = wr.heap.size + 1 := by simp
      have hB2 := hB.below hW2 hB.lt
      have HA : Hid (Blk (wr.alloc (.cells #[.int .i64 kd, .int .i64 dd, .slice ax nl cx] 45)) (w.heap.size + 1) #[.slice (some ⟨b, o, none⟩) n cap, .int .i64 t, .int .i64 0, .slice oa no oc] 58 ∧ Blk (wr.alloc (.cells #[.int .i64 kd, .int .i64 dd, .slice ax nl cx] 45)) wr.heap.size #[.int .i64 kd, .int .i64 dd, .slice ax nl cx] 45 ∧ RowAt 4 encO (wr.alloc (.cells #[.int .i64 kd, .int .i64 dd, .slice ax nl cx] 45)) oa XR ∧ Below (w.heap.size + 1) V (wr.alloc (.cells #[.int .i64 kd, .int .i64 dd, .slice ax nl cx] 45))) := ⟨hB2, hr2, ((hR.below hW2 (Nat.le_refl _)).at lenO).1, hBR.trans (hW2.mono (by omega))⟩
      have HP : Hid ((∀ x ∈ XR, PartsAt w x.2.1.1 x.2.2) ∧ XR.map stripD = DD ∧ no = XR.length ∧ PartsAt w ax l) := ⟨hT, hD, hnr, hq⟩
      have z3 := hB2.cell 3
      simp at z3
      have hzl := hB2.lt
      clear hB hR hT hD hB2 hr2 hq hnr hBR hW2 hinv
      go_wp2
      generalize wr.alloc (.cells #[.int .i64 kd, .int .i64 dd, .slice ax nl cx] 45) = W at *
      generalize hwo : wr = wo at *
      clear hwo
      go_loopw [6, 20] (fun rv i w' => ∃ (j : Nat) (rest : List XD), j ≤ no ∧ i = .int .i64 j ∧ Hid (InnerG w W w' (w.heap.size + 1) #[.slice (some ⟨b, o, none⟩) n cap, .int .i64 t, .int .i64 0, .slice oa no oc] rv rest (kfil kd dd (DD.take j)))) (fun _ i _ => no - (intOf i).toNat)
      case atStart => exact ⟨0, [], Nat.zero_le _, rfl, Below.refl _ _, OwnL.nil _ _, (fun x hx => by cases hx), by unfold kfil; split <;> rfl, HA.out.1⟩
      case round =>
        obtain ⟨j, rest, hj, rfl, hIn⟩ := hrel
        have hWs : W.heap.size = wo.heap.size + 1 := hs2
        by_cases hjl : j < no
        · have hjX : j < XR.length := by have := HP.out.2.2.1; omega
          have hjD : j < DD.length := by rw [← HP.out.2.1, List.length_map]; exact hjX
          have hDj : DD[j] = (XR[j].1, XR[j].2.2) := by
            have : DD = XR.map stripD := HP.out.2.1.symm
            subst this
            rw [List.getElem_map]
            rfl
          have HY : Hid ((¬ kd = 6 ∨ ¬ XR[j].1 = dd) → kfil kd dd (DD.take (j + 1)) = kfil kd dd (DD.take j) ++ [(XR[j].1, XR[j].2.2)]) := fun h => by rw [kfil_yes hjD (by rw [hDj]; exact h), hDj]
          have HZ : Hid (kd = 6 → XR[j].1 = dd → kfil kd dd (DD.take (j + 1)) = kfil kd dd (DD.take j)) := fun h h' => by subst h; exact kfil_no hjD (by rw [hDj]; exact h')
          obtain ⟨hK, hO, hPt, hSay, hBq⟩ := hIn.out
          have hyq := HP.out.1 _ (List.getElem_mem hjX)
          have hrlen : rest.length ≤ j := by
            have h1 := congrArg List.length hSay
            have h2 := kfil_len kd dd (DD.take j)
            simp at h1 h2
            omega
          rcases HA.out.2.2.1.below hK with hnil | ⟨g, og, rfl, hgl, hgc⟩
          · exfalso; rw [hnil] at hjX; simp at hjX
          have d0 := hgc j hjX 0 _ rfl
          have d1 := hgc j hjX 1 _ rfl
          have d2 := hgc j hjX 2 _ rfl
          have d3 := hgc j hjX 3 _ rfl
          have hrr := HA.out.2.1.below hK (by omega)
          have r0 := hrr.cell 0
          have r1 := hrr.cell 1
          simp at r0 r1
          have hrl := hrr.lt
          obtain ⟨av, nv, cv, rfl⟩ : ∃ a n c, u6 = .slice a n c := by
            obtain ⟨a, c, hv, _⟩ := hO.row lenO
            exact ⟨a, _, c, hv⟩
          clear hIn hgc hgl hDj hjD
          generalize XR[j] = y at *
          obtain ⟨yd, ⟨ya, yc⟩, yl⟩ := y
          simp only [Nat.add_zero] at d0 d1 d2 d3 hyq HY HZ
          generalize hyl : yl.length = ny at *
          have HYL : Hid (yl.length = ny) := hyl
          have HO : Hid (OwnL 79 4 encO wr W.heap.size (.slice av nv cv) rest ∧ rest.length + 1 ≤ 1000000 ∧ Below W.heap.size W wr) := ⟨hO, by omega, hK⟩
          have HX : Hid ((∀ x ∈ rest, PartsAt w x.2.1.1 x.2.2) ∧ PartsAt w ya yl ∧ rest.map stripD = kfil kd dd (DD.take j) ∧ Blk wr (w.heap.size + 1) #[.slice (some ⟨b, o, none⟩) n cap, .int .i64 t, .int .i64 0, .slice (some ⟨g, og, none⟩) no oc] 58) := ⟨hPt, hyq, hSay, hBq⟩
          have hsw := hK.size
          clear hO hK hPt hyq hSay hBq hyl hrr hrlen
          by_cases hyes : ¬ kd = 6 ∨ ¬ yd = dd
          · have HF0 : Hid (kfil kd dd (DD.take (j + 1)) = kfil kd dd (DD.take j) ++ [(yd, yl)]) := HY.out hyes
            clear HY HZ
            have hc : (kd != 6) = true ∨ (kd = 6 ∧ ¬ yd = dd) := by
              by_cases h6 : kd = 6
              · rcases hyes with h | h
                · exact absurd h6 h
                · exact Or.inr ⟨h6, h⟩
              · exact Or.inl (by simpa using h6)
            clear hyes
            rcases hc with hc | ⟨rfl, hc⟩
            all_goals
              go_wp2_with (at_builtin; refine wpList_append_list lenO oneO Try.underlying56 infoOpen rfl (by decide) (by decide) _ rfl _ _ rfl W.heap.size _ rest rfl (HO.out.1.below (below2 wr _ _) (Nat.le_refl _)) (some ⟨wr.heap.size + 1, 0, none⟩) 1 1 [(yd, (ya, yc), yl)] rfl rfl (RowAt.one (heap2 wr _ _) (by simp [encO, HYL.out])) (by have := HO.out.2.1; simp; omega) (by have := HO.out.2.2.size; simp; omega) ?_; intro a4 n4 c4 w4 hown4 hn4 hgrow4 hat4; clear hn4 hat4)
              have hgT := HO.out.1.below (below2 wr (.cells #[.int .i64 yd, .slice ya ny yc, .bool true, .slice none 0 0] 79) (.cells #[.int .i64 yd, .slice ya ny yc, .bool true, .slice none 0 0] 79)) (Nat.le_refl _)
              have HF : Hid (InnerG w W w4 (w.heap.size + 1) #[.slice (some ⟨b, o, none⟩) n cap, .int .i64 t, .int .i64 0, .slice (some ⟨g, og, none⟩) no oc] (.slice a4 n4 c4) (rest ++ [(yd, (ya, yc), yl)]) (kfil _ dd (DD.take (j + 1)))) :=
                ⟨((HO.out.2.2.alloc hsw _).alloc (by simp; omega) _).grown hgrow4 (by simp; omega) hgT.base, hown4, (fun x hx => by rcases List.mem_append.1 hx with hx | hx; exact HX.out.1 x hx; rw [List.mem_singleton.1 hx]; exact HX.out.2.1), (by rw [List.map_append, HX.out.2.2.1, HF0.out]; rfl), ((HX.out.2.2.2.alloc _).alloc _).keptT hgrow4 (hgT.grownT (by decide))⟩
              clear hgT hgrow4 hown4
              go_wp2
              go_roundw
              case rel => exact ⟨j + 1, _, by omega, by go_num, HF⟩
              case measure => simp [intOf]; omega
          · have h6 : kd = 6 := by omega
            have hyd : yd = dd := by omega
            subst h6
            subst hyd
            have HF0 : Hid (kfil 6 yd (DD.take (j + 1)) = kfil 6 yd (DD.take j)) := HZ.out rfl rfl
            clear HY HZ hyes
            have HF : Hid (InnerG w W (wr.alloc (.cells #[.int .i64 yd, .slice ya ny yc, .bool true, .slice none 0 0] 79)) (w.heap.size + 1) #[.slice (some ⟨b, o, none⟩) n cap, .int .i64 t, .int .i64 0, .slice (some ⟨g, og, none⟩) no oc] (.slice av nv cv) rest (kfil 6 yd (DD.take (j + 1)))) :=
              ⟨HO.out.2.2.alloc hsw _, HO.out.1.below (below1 _ _) (Nat.le_refl _), HX.out.1, by rw [HX.out.2.2.1, HF0.out], HX.out.2.2.2.alloc _⟩
            go_wp2
            go_roundw
            case rel => exact ⟨j + 1, _, by omega, by go_num, HF⟩
            case measure => simp [intOf]; omega
        · have hjn : j = no := by omega
          have hfull : DD.take j = DD := List.take_of_length_le (by
            have h1 := HP.out.2.2.1
            have h2 := congrArg List.length HP.out.2.1
            simp at h2
            omega)
          obtain ⟨hK, hO, hPt, hSay, hBq⟩ := hIn.out
          rw [hfull] at hSay
          have hlen := kfil_len kd dd DD
          generalize kfil kd dd DD = rD at *
          have hrlen : rest.length = rD.length := by rw [← hSay, List.length_map]
          have hrr := HA.out.2.1.below hK (by omega)
          obtain ⟨av, nv, cv, rfl⟩ : ∃ a n c, u6 = .slice a n c := by
            obtain ⟨a, c, hv, _⟩ := hO.row lenO
            exact ⟨a, _, c, hv⟩
          have hBs : Blk (wr.setCell ⟨w.heap.size + 1, 3, none⟩ (.slice av nv cv)) (w.heap.size + 1) #[.slice (some ⟨b, o, none⟩) n cap, .int .i64 t, .int .i64 0, .slice av nv cv] 58 := hBq.set 3 _
          have hBel : Below (w.heap.size + 1) V wr := HA.out.2.2.2.trans (hK.mono (by omega))
          have HS5 : Hid (Blk (wr.setCell ⟨w.heap.size + 1, 3, none⟩ (.slice av nv cv)) (w.heap.size + 1) #[.slice (some ⟨b, o, none⟩) n cap, .int .i64 t, .int .i64 0, .slice av nv cv] 58 ∧ Blk (wr.setCell ⟨w.heap.size + 1, 3, none⟩ (.slice av nv cv)) wo.heap.size #[.int .i64 kd, .int .i64 dd, .slice ax nl cx] 45 ∧ OwnL 79 4 encO (wr.setCell ⟨w.heap.size + 1, 3, none⟩ (.slice av nv cv)) (w.heap.size + 2) (.slice av nv cv) rest ∧ (∀ x ∈ rest, PartsAt w x.2.1.1 x.2.2) ∧ rest.map stripD = rD ∧ Below (w.heap.size + 1) V (wr.setCell ⟨w.heap.size + 1, 3, none⟩ (.slice av nv cv))) :=
            ⟨hBs, hrr.setOther (a := ⟨w.heap.size + 1, 3, none⟩) (by simp; omega) _, (hO.mono (by omega)).setOther (a := ⟨w.heap.size + 1, 3, none⟩) hBq (by decide) _, hPt, hSay, hBel.setCell (Nat.le_refl _) _⟩
          have y3 := hBq.cell 3
          have f3 := hBq.free 3
          simp at y3
          have hws : w.heap.size + 2 ≤ (wr.setCell ⟨w.heap.size + 1, 3, none⟩ (.slice av nv cv)).heap.size := by have := hK.size; simp; omega
          have hr1 : rest.length + 1 ≤ 1000000 := by omega
          clear hIn hK hO hPt hSay hBq hrr hBs hBel hlen hrlen hDl hfull
          go_upto_region 13 with fail
          clear y3 f3
          generalize wr.setCell ⟨w.heap.size + 1, 3, none⟩ (.slice av nv cv) = S at *
          have hSl := HS5.out.1.lt
          have hSr := HS5.out.2.1.lt
          have r0 := HS5.out.2.1.cell 0
          simp at r0
          by_cases k4 : kd = 4
          · subst k4
            rw [if_pos rfl, if_neg (by decide)] at HS
            have g1 := HS5.out.1.cell 1
            have g1' := HS5.out.1.free 1
            simp at g1
            have hne : ¬ (w.heap.size + 1 = wo.heap.size) := by omega
            have hne' : ¬ (wo.heap.size = w.heap.size + 1) := by omega
            have HF : Hid (TAt w (w.heap.size + 1) (w.heap.size + 2) (.slice (some ⟨b, o, none⟩) n cap) (S.setCell ⟨w.heap.size + 1, 1, none⟩ (.int .i64 (t + 1))) (t + 1, rD) ∧ Below (w.heap.size + 1) V (S.setCell ⟨w.heap.size + 1, 1, none⟩ (.int .i64 (t + 1))) ∧ w.heap.size + 2 ≤ (S.setCell ⟨w.heap.size + 1, 1, none⟩ (.int .i64 (t + 1))).heap.size) :=
              ⟨⟨av, nv, cv, rest, HS5.out.1.set 1 _, HS5.out.2.2.1.setOther (a := ⟨w.heap.size + 1, 1, none⟩) HS5.out.1 (by decide) _, HS5.out.2.2.2.1, HS5.out.2.2.2.2.1⟩, HS5.out.2.2.2.2.2.setCell (Nat.le_refl _) _, by simpa using hws⟩
            go_wp2
            go_roundw
            case rel => exact ⟨k + 1, by omega, by go_num, by rw [HS.out]; exact HF.out⟩
            case measure => simp [intOf]; omega
          · have k4' : (kd == 4) = false := by simpa using k4
            rw [if_neg k4] at HS
            by_cases k5 : kd = 5
            · subst k5
              rw [if_pos rfl] at HS
              have r1 := HS5.out.2.1.cell 1
              have r2 := HS5.out.2.1.cell 2
              have g3 := HS5.out.1.cell 3
              simp at r1 r2 g3
              clear k4
              go_wp2_with (at_builtin; refine wpList_append_list lenO oneO Try.underlying56 infoOpen rfl (by decide) (by decide) _ rfl _ _ rfl (w.heap.size + 2) _ rest rfl (HS5.out.2.2.1.below (below1 S _) (Nat.le_refl _)) (some ⟨S.heap.size, 0, none⟩) 1 1 [(dd, (ax, cx), l)] rfl rfl (RowAt.one (Blk.new S _ _) (by simp [encO, HLL.out])) (by simp; omega) (by simp; omega) ?_; intro a4 n4 c4 w4 hown4 hn4 hgrow4 hat4; have hK4 := (HS5.out.1.alloc _).keptT hgrow4 ((HS5.out.2.2.1.below (below1 S _) (Nat.le_refl _)).grownT (by decide)); have j3 := hK4.cell 3; have j3' := hK4.free 3; simp at j3; have HK4 : Hid (Blk w4 (w.heap.size + 1) #[.slice (some ⟨b, o, none⟩) n cap, .int .i64 t, .int .i64 0, .slice av nv cv] 58) := hK4; clear hK4 hn4 hat4)
              have hgT := HS5.out.2.2.1.below (below1 S (.cells #[.int .i64 dd, .slice ax nl cx, .bool true, .slice none 0 0] 79)) (Nat.le_refl _)
              have HF : Hid (TAt w (w.heap.size + 1) (w.heap.size + 2) (.slice (some ⟨b, o, none⟩) n cap) (w4.setCell ⟨w.heap.size + 1, 3, none⟩ (.slice a4 n4 c4)) (t, rD ++ [(dd, l)]) ∧ Below (w.heap.size + 1) V (w4.setCell ⟨w.heap.size + 1, 3, none⟩ (.slice a4 n4 c4)) ∧ w.heap.size + 2 ≤ (w4.setCell ⟨w.heap.size + 1, 3, none⟩ (.slice a4 n4 c4)).heap.size) := by
                refine ⟨⟨a4, n4, c4, rest ++ [(dd, (ax, cx), l)], HK4.out.set 3 _, hown4.setOther (a := ⟨w.heap.size + 1, 3, none⟩) HK4.out (by decide) _, ?_, ?_⟩, ?_, ?_⟩
                · intro x hx
                  rcases List.mem_append.1 hx with hx | hx
                  · exact HS5.out.2.2.2.1 x hx
                  · rw [List.mem_singleton.1 hx]; exact HP.out.2.2.2
                · rw [List.map_append, HS5.out.2.2.2.2.1]; rfl
                · exact ((HS5.out.2.2.2.2.2.alloc (by omega) _).grown hgrow4 (by simp; omega) (fun k hk => by have := hgT.base k hk; omega)).setCell (Nat.le_refl _) _
                · have := hgrow4.size
                  simp at this ⊢
                  omega
              clear hgT hgrow4 hown4 r0 r1 r2 g3 HK4
              go_wp2
              go_roundw
              case rel => exact ⟨k + 1, by omega, by go_num, by rw [HS.out]; exact HF.out⟩
              case measure => simp [intOf]; omega
            · have k5' : (kd == 5) = false := by simpa using k5
              rw [if_neg k5] at HS
              have HF : Hid (TAt w (w.heap.size + 1) (w.heap.size + 2) (.slice (some ⟨b, o, none⟩) n cap) S (t, rD) ∧ Below (w.heap.size + 1) V S ∧ w.heap.size + 2 ≤ S.heap.size) := ⟨⟨av, nv, cv, rest, HS5.out.1, HS5.out.2.2.1, HS5.out.2.2.2.1, HS5.out.2.2.2.2.1⟩, HS5.out.2.2.2.2.2, hws⟩
              clear k4 k5
              go_wp2
              go_roundw
              case rel => exact ⟨k + 1, by omega, by go_num, by rw [HS.out]; exact HF.out⟩
              case measure => simp [intOf]; omega
    · have hkn : k = n := by omega
      have hfull : (X.take k).map stripL = X.map stripL := by rw [List.take_of_length_le (by have := HN.out.1; omega)]
      obtain ⟨hRA, hB1, hsw⟩ := hH.out
      rw [hfull] at hRA
      obtain ⟨oa, no, oc, XR, hB, hR, hT, hD⟩ := hRA
      have hN := HV.out.1.below hB1 (by omega)
      generalize hhb : headB (X.map stripL) = h at *
      have HHB : Hid (headB (X.map stripL) = h) := hhb
      clear hhb hH hfull
      obtain ⟨t, DD⟩ := h
      simp only at hB hD
      obtain ⟨hW, hOnly⟩ := fill4 hN (.slice a n cap) (.int .i64 t) (.int .i64 0) (.slice oa no oc)
      have hBw0 : Below w.heap.size w wr := HV.out.2.trans (hB1.mono (by omega))
      have hBW : Below w.heap.size w ((((wr.setCell ⟨w.heap.size, 0, none⟩ (.slice a n cap)).setCell ⟨w.heap.size, 1, none⟩ (.int .i64 t)).setCell ⟨w.heap.size, 2, none⟩ (.int .i64 0)).setCell ⟨w.heap.size, 3, none⟩ (.slice oa no oc)) := ((((hBw0).setCell (Nat.le_refl _) _).setCell (Nat.le_refl _) _).setCell (Nat.le_refl _) _).setCell (Nat.le_refl _) _
      have HF : Hid (HeadAt ((((wr.setCell ⟨w.heap.size, 0, none⟩ (.slice a n cap)).setCell ⟨w.heap.size, 1, none⟩ (.int .i64 t)).setCell ⟨w.heap.size, 2, none⟩ (.int .i64 0)).setCell ⟨w.heap.size, 3, none⟩ (.slice oa no oc)) (.agg #[.slice a n cap, .int .i64 t, .int .i64 0, .slice oa no oc]) (X.map stripL) (t, DD)) := by
        have k2 := (hR.only hOnly (by decide)).at lenO
        exact ⟨a, n, cap, X, oa, no, oc, XR, rfl, ⟨by rw [List.length_map]; exact HN.out.1, rfl, HN.out.2.below hBW⟩, k2.2.1, hD, k2.1, fun x hx => (hT x hx).below hBW⟩
      have HBlk : Hid _ := And.intro hW hBW
      have b0 := hB.cell 0
      have b1 := hB.cell 1
      have b2 := hB.cell 2
      have b3 := hB.cell 3
      have n0 := hN.cell 0
      have n1 := hN.cell 1
      have n2 := hN.cell 2
      have n3 := hN.cell 3
      have f0 := hN.free 0
      have f1 := hN.free 1
      have f2 := hN.free 2
      have f3 := hN.free 3
      simp at b0 b1 b2 b3 n0 n1 n2 n3
      clear hW hBW hOnly hB hN hR hT hD hBw0
      go_wp2_with fail
      clear b0 b1 b2 b3 n0 n1 n2 n3 f0 f1 f2 f3
      have e0 := Blk.cell HBlk.out.1 0
      have e1 := Blk.cell HBlk.out.1 1
      have e2 := Blk.cell HBlk.out.1 2
      have e3 := Blk.cell HBlk.out.1 3
      simp only [List.getElem?_toArray, List.getElem?_cons_zero, List.getElem?_cons_succ] at e0 e1 e2 e3
      refine bodyPost_ret (v := .agg #[.slice a n cap, .int .i64 t, .int .i64 0, .slice oa no oc]) ?_ rfl ⟨_, rfl, by rw [HHB.out]; exact HF.out, HBlk.out.2⟩
      simp [results, Try.results25, go_sem, e0, e1, e2, e3]

end Go.Proofs.Ytbdkkajmafjfbab
