/- What house.own does: a copy of a house that shares nothing with it. -/
import Derived.Test.YtikmnaegalmfeaaKHous1
import Derived.Test.YtikmnaegalmfeaaKLog6
import Derived.Test.YtikmnaegalmfeaaKHearA
namespace Go.Proofs.Ytikmnaegalmfeaa
open Go.RowKit
attribute [local go_sem ↓] Go.wp_at_zero Go.wp_at_succ

set_option maxHeartbeats 1000000 in
theorem cloneI_any (a : Option Addr) (l : List Int) (cap n : Nat) (w : World) (hn : n = l.length) (hl : l.length ≤ 3518437208883) (hp : RowAt 1 encI w a l) :
    Calls Try.prog 64 #[.slice a n cap] w fun e w' => ∃ a' c', e = .returned (.slice a' n c') ∧ OwnL 3 1 encI w' w.heap.size (.slice a' n c') l ∧ Below w.heap.size w w' := by
  have q : ∀ (w : World) (a : Option Addr) (n c n' c' : Nat), (binOp .eql 29 (.slice a n c) (.slice none n' c')).run Try.prog w = .ok (.bool a.isNone) w := fun w a n c n' c' => Lib.run_eql_slice_nil w _ _ a n c n' c' Try.underlying29
  cases a with
  | none =>
    have h0 : l = [] := by
      rcases hp with h | ⟨b, o, h, _⟩
      · exact h
      · cases h
    subst h0
    subst hn
    clear hp
    go_enter Try.func64, Try.ntmps64
    go_wp2
    go_ret
    exact ⟨_, _, rfl, OwnL.nil _ _, Below.refl _ _⟩
  | some ad =>
    have HP : Hid (RowAt 1 encI w (some ad) l) := hp
    have HN : Hid (n = l.length) := hn
    clear hp hn
    go_enter Try.func64, Try.ntmps64
    go_wp2_with (at_builtin; refine wpList_append_listB lenI oneI Try.underlying29 infoInt rfl (by decide) _ rfl _ _ rfl w.heap.size _ [] rfl (World.ownsRow_made w #[] 0 (Nat.le_refl _) (Nat.zero_le _) (by simp)) (some ad) n cap l rfl HN.out (HP.out.below (below1 w _)) (by unfold maxLen; simp; omega) (by simp; omega) (by simp) ?_; intro a' n' c' w1 hown hn' hgrow hat)
    have HO : Hid (OwnL 3 1 encI w1 w.heap.size (.slice a' n' c') l ∧ n' = n) := ⟨by rw [List.nil_append] at hown; exact hown, by rw [hn', HN.out]; simp⟩
    clear hown hn' hat
    go_wp2
    go_ret
    refine ⟨a', c', by rw [← HN.out] at *; exact rfl, by rw [← HO.out.2]; exact HO.out.1, ?_⟩
    exact ((Below.refl _ w).alloc (Nat.le_refl _) _).grown hgrow (by simp) (by intro k hk; cases hk; exact Nat.le_refl _)

set_option maxRecDepth 20000 in
set_option maxHeartbeats 4000000 in
theorem hown_any (la ra da : Option Addr) (nl lc nr rc nd dc : Nat) (s0 s1 s2 s3 : Int) (Y : List XL) (XR : List XD) (D : List D2) (dn : List Int) (w : World) (hn : nl = Y.length) (hl : Y.length ≤ 3518437208883) (hok : OkL (Y.map stripL)) (hp : RecsAt w la Y) (h : RdyAt w ra nr XR D) (hrl : XR.length ≤ 3518437208883) (hrok : ∀ x ∈ XR, OkP x.2.2)
    (hnd : nd = dn.length) (hdl : dn.length ≤ 3518437208883) (hdn : RowAt 1 encI w da dn) :
    Calls Try.prog 30 #[.agg #[.slice la nl lc, .int .i64 s0, .int .i64 s1, .int .i64 s2, .int .i64 s3, .slice ra nr rc, .slice da nd dc]] w fun e w' => ∃ v, e = .returned v ∧ HouseN w.heap.size w' v (Y.map stripL) ((s0, s1, s2, s3), D, dn) ∧ Below w.heap.size w w' := by
  have HN : Hid ((nl = Y.length ∧ Y.length ≤ 3518437208883 ∧ OkL (Y.map stripL) ∧ RecsAt w la Y) ∧ (RdyAt w ra nr XR D ∧ XR.length ≤ 3518437208883 ∧ (∀ x ∈ XR, OkP x.2.2)) ∧ (nd = dn.length ∧ dn.length ≤ 3518437208883 ∧ RowAt 1 encI w da dn)) := ⟨⟨hn, hl, hok, hp⟩, ⟨h, hrl, hrok⟩, hnd, hdl, hdn⟩
  clear hn hl hok hp h hrl hrok hnd hdl hdn
  go_enter Try.func30, Try.ntmps30
  go_wp2_with fail
  have hb0 := below2 w (.cells #[.slice la nl lc, .int .i64 s0, .int .i64 s1, .int .i64 s2, .int .i64 s3, .slice ra nr rc, .slice da nd dc] 31) (.cells #[.slice none 0 0, .int .i64 0, .int .i64 0, .int .i64 0, .int .i64 0, .slice none 0 0, .slice none 0 0] 31)
  have hh : Blk ((w.alloc (.cells #[.slice la nl lc, .int .i64 s0, .int .i64 s1, .int .i64 s2, .int .i64 s3, .slice ra nr rc, .slice da nd dc] 31)).alloc (.cells #[.slice none 0 0, .int .i64 0, .int .i64 0, .int .i64 0, .int .i64 0, .slice none 0 0, .slice none 0 0] 31)) w.heap.size #[.slice la nl lc, .int .i64 s0, .int .i64 s1, .int .i64 s2, .int .i64 s3, .slice ra nr rc, .slice da nd dc] 31 := (Blk.new w _ _).alloc _
  have hz : Blk ((w.alloc (.cells #[.slice la nl lc, .int .i64 s0, .int .i64 s1, .int .i64 s2, .int .i64 s3, .slice ra nr rc, .slice da nd dc] 31)).alloc (.cells #[.slice none 0 0, .int .i64 0, .int .i64 0, .int .i64 0, .int .i64 0, .slice none 0 0, .slice none 0 0] 31)) (w.heap.size + 1) #[.slice none 0 0, .int .i64 0, .int .i64 0, .int .i64 0, .int .i64 0, .slice none 0 0, .slice none 0 0] 31 := heap2 _ _ _
  generalize ((w.alloc (.cells #[.slice la nl lc, .int .i64 s0, .int .i64 s1, .int .i64 s2, .int .i64 s3, .slice ra nr rc, .slice da nd dc] 31)).alloc (.cells #[.slice none 0 0, .int .i64 0, .int .i64 0, .int .i64 0, .int .i64 0, .slice none 0 0, .slice none 0 0] 31)) = X at *
  have HB : Hid (Below w.heap.size w X ∧ Blk X w.heap.size #[.slice la nl lc, .int .i64 s0, .int .i64 s1, .int .i64 s2, .int .i64 s3, .slice ra nr rc, .slice da nd dc] 31 ∧ Blk X (w.heap.size + 1) #[.slice none 0 0, .int .i64 0, .int .i64 0, .int .i64 0, .int .i64 0, .slice none 0 0, .slice none 0 0] 31) := ⟨hb0, hh, hz⟩
  have HK : Hid (∀ w', Below X.heap.size X w' → (w'.cell? ⟨w.heap.size, 0, none⟩ = some (.slice la nl lc) ∧ w'.cell? ⟨w.heap.size, 1, none⟩ = some (.int .i64 s0) ∧ w'.cell? ⟨w.heap.size, 2, none⟩ = some (.int .i64 s1) ∧ w'.cell? ⟨w.heap.size, 3, none⟩ = some (.int .i64 s2) ∧ w'.cell? ⟨w.heap.size, 4, none⟩ = some (.int .i64 s3) ∧ w'.cell? ⟨w.heap.size, 6, none⟩ = some (.slice da nd dc))) := fun w' hb =>
    ⟨(hh.below hb hh.lt).cell 0, (hh.below hb hh.lt).cell 1, (hh.below hb hh.lt).cell 2, (hh.below hb hh.lt).cell 3, (hh.below hb hh.lt).cell 4, (hh.below hb hh.lt).cell 6⟩
  have hX0 : Below X.heap.size X X.drew := (Below.refl _ _).drew
  have hX1 := hX0.alloc hX0.size (.cells #[.slice none 0 0, .int .i64 0, .int .i64 0, .int .i64 0, .int .i64 0, .slice none 0 0, .slice none 0 0] 31)
  have hX2 := ((Below.refl X.heap.size X).alloc (Nat.le_refl _) (.cells #[.slice none 0 0, .int .i64 0, .int .i64 0, .int .i64 0, .int .i64 0, .slice none 0 0, .slice none 0 0] 31)).drew
  have hA0 := Blk.new X.drew #[.slice none 0 0, .int .i64 0, .int .i64 0, .int .i64 0, .int .i64 0, .slice none 0 0, .slice none 0 0] 31
  have hA1 := (Blk.new X #[.slice none 0 0, .int .i64 0, .int .i64 0, .int .i64 0, .int .i64 0, .slice none 0 0, .slice none 0 0] 31).drew
  have hltX := hh.lt
  have hltZ := hz.lt
  clear hh hz hb0
  go_cut [3] (fun p wx => ∃ (B : Nat) (a2 : Option Addr) (c2 : Nat) (a3 : Option Addr) (c3 : Nat), p = .pointer (some ⟨B, 0, none⟩) ∧ Hid (X.heap.size ≤ B ∧ Blk wx B #[.slice a2 nl c2, .int .i64 s0, .int .i64 s1, .int .i64 s2, .int .i64 s3, .slice none 0 0, .slice a3 nd c3] 31 ∧ (∃ Y2 : List XL, Y2.map stripL = Y.map stripL ∧ RecsO wx X.heap.size (.slice a2 nl c2) Y2) ∧ OwnL 3 1 encI wx X.heap.size (.slice a3 nd c3) dn ∧ Below X.heap.size X wx))
  case first =>
    go_region_held3 (fun w' => (w'.cell? ⟨w.heap.size, 0, none⟩ = some (.slice la nl lc) ∧ w'.cell? ⟨w.heap.size, 1, none⟩ = some (.int .i64 s0) ∧ w'.cell? ⟨w.heap.size, 2, none⟩ = some (.int .i64 s1) ∧ w'.cell? ⟨w.heap.size, 3, none⟩ = some (.int .i64 s2) ∧ w'.cell? ⟨w.heap.size, 4, none⟩ = some (.int .i64 s3) ∧ w'.cell? ⟨w.heap.size, 6, none⟩ = some (.slice da nd dc))) (
      first
      | with_reducible exact HK.out _ hS7
      | with_reducible exact HK.out _ (Below.refl _ _)
      | with_reducible exact HK.out _ hX0
      | with_reducible exact HK.out _ hX1
      | with_reducible exact HK.out _ hX2
      | with_reducible exact HK.out _ hB2
      | with_reducible exact HK.out _ (hB2.alloc hB2.size _)
      | with_reducible exact HK.out _ hB3
      | with_reducible exact HK.out _ (hB3.alloc hB3.size _)) (
      first
      | (go_at_call 64; refine (cloneI_any da dn dc nd _ HN.out.2.2.1 HN.out.2.2.2.1 (by first | exact (HN.out.2.2.2.2.below HB.out.1).below hB2 | exact (HN.out.2.2.2.2.below HB.out.1).below (hB2.alloc hB2.size _))).mono ?_; rintro e w3 ⟨a3, c3, rfl, ho3, hb3⟩; have hA2 := Blk.new w2 #[.slice none 0 0, .int .i64 0, .int .i64 0, .int .i64 0, .int .i64 0, .slice none 0 0, .slice none 0 0] 31; have hB3 : Below X.heap.size X w3 := (by first | exact hB2.trans (hb3.mono hB2.size) | exact (hB2.alloc hB2.size _).trans (hb3.mono (hB2.alloc hB2.size _).size)); have HY : Hid (Y2.map stripL = Y.map stripL ∧ RecsO w3 X.heap.size (.slice a2 nl c2) Y2 ∧ OwnL 3 1 encI w3 X.heap.size (.slice a3 nd c3) dn) := ⟨HY2.out.1, (by first | exact HY2.out.2.below hb3 | exact (HY2.out.2.below (below1 w2 _)).below hb3), (by first | exact ho3.mono hB2.size | exact ho3.mono (hB2.alloc hB2.size _).size)⟩; (try (have hZ3 : Blk w3 X.heap.size #[.slice none 0 0, .int .i64 0, .int .i64 0, .int .i64 0, .int .i64 0, .slice none 0 0, .slice none 0 0] 31 := (by with_reducible exact hZ2.below hb3 hZ2.lt); have hBl : X.heap.size ≤ X.heap.size := Nat.le_refl _)); (try (have hZ3 : Blk w3 w2.heap.size #[.slice none 0 0, .int .i64 0, .int .i64 0, .int .i64 0, .int .i64 0, .slice none 0 0, .slice none 0 0] 31 := (by with_reducible exact hA2.below hb3 hA2.lt); have hBl : X.heap.size ≤ w2.heap.size := hB2.size)); (try (obtain ⟨⟨n0, n1, n2, n3, n4, n5, n6⟩, f0, f1, f2, f3, f4, f5, f6⟩ := zcells hZ3; have hZl := hZ3.lt; obtain ⟨hF7, hK7⟩ := fill7K hZ3 (.slice a2 nl c2) (.int .i64 s0) (.int .i64 s1) (.int .i64 s2) (.int .i64 s3) (.slice none 0 0) (.slice a3 nd c3); have hS7 := hB3.trans (hK7.below hB3.size (fun k hk => (by have h2 := hB2.size; omega))))))
      | (go_at_call 63; refine (own_gen la Y lc nl _ HN.out.1.1 HN.out.1.2.1 HN.out.1.2.2.1 (by first | exact (HN.out.1.2.2.2.below HB.out.1).below hX0 | exact (HN.out.1.2.2.2.below HB.out.1).below hX1 | exact (HN.out.1.2.2.2.below HB.out.1).below hX2)).mono ?_; rintro e w2 ⟨a2, c2, Y2, rfl, hY2, hr2, hb2⟩; have hB2 : Below X.heap.size X w2 := (by first | exact hX0.trans (hb2.mono hX0.size) | exact hX1.trans (hb2.mono hX1.size) | exact hX2.trans (hb2.mono hX2.size)); have HY2 : Hid (Y2.map stripL = Y.map stripL ∧ RecsO w2 X.heap.size (.slice a2 nl c2) Y2) := ⟨hY2, (by first | exact hr2.mono hX0.size | exact hr2.mono hX1.size | exact hr2.mono hX2.size)⟩; (try (have hZ2 : Blk w2 X.heap.size #[.slice none 0 0, .int .i64 0, .int .i64 0, .int .i64 0, .int .i64 0, .slice none 0 0, .slice none 0 0] 31 := (by first | with_reducible exact hA0.below hb2 hA0.lt | with_reducible exact hA1.below hb2 hA1.lt)))))
    · have HM : Hid (X.heap.size ≤ w3.heap.size ∧ Blk (w3.alloc (.cells #[.slice a2 nl c2, .int .i64 s0, .int .i64 s1, .int .i64 s2, .int .i64 s3, .slice none 0 0, .slice a3 nd c3] 31)) w3.heap.size #[.slice a2 nl c2, .int .i64 s0, .int .i64 s1, .int .i64 s2, .int .i64 s3, .slice none 0 0, .slice a3 nd c3] 31 ∧ (∃ Y2 : List XL, Y2.map stripL = Y.map stripL ∧ RecsO (w3.alloc (.cells #[.slice a2 nl c2, .int .i64 s0, .int .i64 s1, .int .i64 s2, .int .i64 s3, .slice none 0 0, .slice a3 nd c3] 31)) X.heap.size (.slice a2 nl c2) Y2) ∧ OwnL 3 1 encI (w3.alloc (.cells #[.slice a2 nl c2, .int .i64 s0, .int .i64 s1, .int .i64 s2, .int .i64 s3, .slice none 0 0, .slice a3 nd c3] 31)) X.heap.size (.slice a3 nd c3) dn ∧ Below X.heap.size X (w3.alloc (.cells #[.slice a2 nl c2, .int .i64 s0, .int .i64 s1, .int .i64 s2, .int .i64 s3, .slice none 0 0, .slice a3 nd c3] 31))) :=
        ⟨hB3.size, Blk.new _ _ _, ⟨Y2, HY.out.1, HY.out.2.1.below (below1 w3 _)⟩, HY.out.2.2.below (below1 w3 _) (Nat.le_refl _), hB3.alloc hB3.size _⟩
      go_wp2_with fail
      go_meet
      case rel => exact ⟨_, a2, c2, a3, c3, rfl, HM⟩
    all_goals
      obtain ⟨_, hOn⟩ := fill7 hZ3 (.slice a2 nl c2) (.int .i64 s0) (.int .i64 s1) (.int .i64 s2) (.int .i64 s3) (.slice none 0 0) (.slice a3 nd c3)
      have HM : Hid _ := And.intro hBl (And.intro hF7 (And.intro (show ∃ Y2 : List XL, Y2.map stripL = Y.map stripL ∧ RecsO _ X.heap.size (.slice a2 nl c2) Y2 from ⟨Y2, HY.out.1, HY.out.2.1.1.only hOn (by decide), fun y hy => (HY.out.2.1.2 y hy).calm (hOn.calm (by decide))⟩) (And.intro (HY.out.2.2.only hOn (by decide)) hS7)))
      clear hF7 hOn
      go_wp2_with fail
      go_meet
      case rel => exact ⟨_, a2, c2, a3, c3, rfl, HM⟩
  case rest =>
  obtain ⟨B, a2, c2, a3, c3, rfl, hcut⟩ := hcut
  obtain ⟨hXB, hBc, ⟨Y2, hY2, hr2⟩, ho3, hbc⟩ := hcut.out
  clear hcut
  have hc5 := ((HB.out.2.1.below hbc hltX).cell 5)
  simp at hc5
  have hltc : w.heap.size < wc.heap.size := Nat.lt_of_lt_of_le hltX hbc.size
  have HS : Hid (HAt B X.heap.size (.slice a2 nl c2) wc ((s0, s1, s2, s3), D.take 0, dn) ∧ RecsO wc X.heap.size (.slice a2 nl c2) Y2 ∧ Below X.heap.size X wc) := ⟨⟨none, 0, 0, [], a3, nd, c3, hBc, OwnL.nil _ _, (fun x hx => by cases hx), by simp, ho3⟩, hr2, hbc⟩
  have HY2 : Hid (Y2.map stripL = Y.map stripL ∧ X.heap.size ≤ B) := ⟨hY2, hXB⟩
  have hnrl : nr ≤ 3518437208883 := by have := HN.out.2.1.1.n; have := HN.out.2.1.2.1; omega
  clear hBc hr2 ho3 hY2 hX0 hX1 hX2 hA0 hA1 HK
  go_wp2
  clear hc5
  go_loopw [18] (fun i w' => ∃ k : Nat, k ≤ nr ∧ i = .int .i64 k ∧ Hid (HAt B X.heap.size (.slice a2 nl c2) w' ((s0, s1, s2, s3), D.take k, dn) ∧ RecsO w' X.heap.size (.slice a2 nl c2) Y2 ∧ Below X.heap.size X w')) (fun i _ => nr - (intOf i).toNat)
  case atStart => exact ⟨0, Nat.zero_le _, rfl, HS⟩
  case round =>
    obtain ⟨k, hk, rfl, hH⟩ := hrel
    by_cases hlt : k < nr
    · have hkX : k < XR.length := by have := HN.out.2.1.1.n; omega
      have hkD : k < D.length := by rw [← HN.out.2.1.1.says, List.length_map]; exact hkX
      have hbX : Below w.heap.size w wr := HB.out.1.trans (hH.out.2.2.mono HB.out.1.size)
      obtain ⟨b, o, rfl, hb, d0, d1, hq⟩ := (HN.out.2.1.1.lies.below hbX).get hkX
      have hokk := HN.out.2.1.2.2 _ (List.getElem_mem hkX)
      have HE : Hid (D.take (k + 1) = D.take k ++ [(XR[k].1, XR[k].2.2)] ∧ (D.take k).length = k) := by
        refine ⟨?_, by simp; omega⟩
        rw [take_snoc hkD]
        have : D = XR.map stripD := HN.out.2.1.1.says.symm
        subst this
        rw [List.getElem_map]
        rfl
      obtain ⟨hHA, hRO, hBw⟩ := hH.out
      obtain ⟨ra', nr', rc', Z, da', nd', dc', hB, hR, hT, hD, hI⟩ := hHA
      simp only at hB hD hI
      generalize XR[k] = x at *
      obtain ⟨dd, ⟨ax, cx⟩, l⟩ := x
      simp only at d0 d1 hq hokk HE
      have hZl : Z.length = k := by have := congrArg List.length hD; rw [List.length_map] at this; rw [this]; exact HE.out.2
      generalize hll : l.length = nx at *
      have HLL : Hid (l.length = nx ∧ OkP l) := ⟨hll, hokk⟩
      have hbn := below1 wr (.cells #[.int .i64 dd, .slice ax nx cx] 69)
      have hrb : Blk (wr.alloc (.cells #[.int .i64 dd, .slice ax nx cx] 69)) wr.heap.size #[.int .i64 dd, .slice ax nx cx] 69 := Blk.new _ _ _
      have hsw := hBw.size
      have hBlt : B < wr.heap.size := hB.lt
      clear hll hokk hH hbX
      go_upto_region 5 with fail
      clear d0 d1
      generalize wr.alloc (.cells #[.int .i64 dd, .slice ax nx cx] 69) = V at *
      have HV : Hid (PartsAt V ax l ∧ Below X.heap.size X V ∧ RecsO V X.heap.size (.slice a2 nl c2) Y2 ∧ (∀ x ∈ Z, PartsT X.heap.size V x.2.1.1 x.2.2) ∧ Z.map stripD = D.take k ∧ OwnL 3 1 encI V X.heap.size (.slice da' nd' dc') dn) := ⟨hq.below hbn, hBw.trans (hbn.mono hsw), hRO.below hbn, fun x hx => (hT x hx).calm (Calm.below hbn (Nat.le_refl _)), hD, hI.below hbn (Nat.le_refl _)⟩
      have HK : Hid (∀ w', Below V.heap.size V w' → ((w'.cell? ⟨wr.heap.size, 0, none⟩ = some (.int .i64 dd) ∧ w'.cell? ⟨wr.heap.size, 1, none⟩ = some (.slice ax nx cx)) ∧ w'.cell? ⟨B, 5, none⟩ = some (.slice ra' nr' rc') ∧ w'.frozen? ⟨B, 5, none⟩ = false ∧ OwnL 69 2 encD w' X.heap.size (.slice ra' nr' rc') Z ∧ Blk w' B #[.slice a2 nl c2, .int .i64 s0, .int .i64 s1, .int .i64 s2, .int .i64 s3, .slice ra' nr' rc', .slice da' nd' dc'] 31)) := fun w' hb' => by
        have h2 := hB.below hbn hB.lt
        exact ⟨⟨(hrb.below hb' hrb.lt).cell 0, (hrb.below hb' hrb.lt).cell 1⟩, (h2.below hb' h2.lt).cell 5, (h2.below hb' h2.lt).free 5, (hR.below hbn (Nat.le_refl _)).below hb' (Nat.le_refl _), h2.below hb' h2.lt⟩
      have hsV : wr.heap.size < V.heap.size := hrb.lt
      have hX0 : Below V.heap.size V V.drew := (Below.refl _ _).drew
      obtain ⟨⟨i0, i1⟩, i5, i6, _, _⟩ := HK.out _ hX0
      clear hB hR hT hD hI hRO hq hbn hrb hBw
      go_region_law (
        first
        | (go_simp; go_at_call 52; refine (cloneP_any ax l cx nx _ HLL.out.1.symm (by have := HLL.out.2.1; omega) (by exact HV.out.1.below hX0)).mono ?_; rintro e w3 ⟨a5, c5, rfl, ht3, hb3⟩; have hB3 : Below V.heap.size V w3 := hX0.trans (hb3.mono hX0.size); obtain ⟨⟨j0, j1⟩, j5, j6, hO3, hK3⟩ := HK.out _ hB3; have hlt3 : B < w3.heap.size := hK3.lt; have hlt3' : wr.heap.size < w3.heap.size := Nat.lt_of_lt_of_le hsV hB3.size; have HT3 : Hid (PartsT X.heap.size w3 a5 l) := ht3.mono (by simp; omega); have HO3 : Hid (OwnL 69 2 encD w3 X.heap.size (.slice ra' nr' rc') Z ∧ Blk w3 B #[.slice a2 nl c2, .int .i64 s0, .int .i64 s1, .int .i64 s2, .int .i64 s3, .slice ra' nr' rc', .slice da' nd' dc'] 31) := ⟨hO3, hK3⟩; clear hb3 i0 i1 i5 i6 ht3 hO3 hK3)
        | (refine step_append_listB lenD oneD Try.underlying28 infoReady rfl (by decide) _ rfl (.tmp 23) (.tmp 30) rfl X.heap.size (.slice ra' nr' rc') Z rfl (HO3.out.1.below (below1 w3 _) (Nat.le_refl _)) (some ⟨w3.heap.size, 0, none⟩) 1 1 [(dd, (a5, c5), l)] rfl rfl (RowAt.one (Blk.new w3 _ _) (by simp [encD, HLL.out.1])) (by unfold maxLen; simp; omega) (by simp; omega) (by have := hB3.size; simp; omega) ?_; intro a4 n4 c4 w4 hown4 hn4 hgrow4 hat4; have hK4 : Blk w4 B #[.slice a2 nl c2, .int .i64 s0, .int .i64 s1, .int .i64 s2, .int .i64 s3, .slice ra' nr' rc', .slice da' nd' dc'] 31 := (HO3.out.2.alloc _).keptT hgrow4 ((HO3.out.1.below (below1 w3 _) (Nat.le_refl _)).grownT (by decide)); have j5' := hK4.cell 5; have j6' := hK4.free 5; simp at j5'; have HK4 : Hid (Blk w4 B #[.slice a2 nl c2, .int .i64 s0, .int .i64 s1, .int .i64 s2, .int .i64 s3, .slice ra' nr' rc', .slice da' nd' dc'] 31) := hK4; clear hn4 hat4 hK4))
      all_goals
        have hg4 := (HO3.out.1.below (below1 w3 (.cells #[.int .i64 dd, .slice a5 nx c5] 69)) (Nat.le_refl _))
        have hC : Calm 45 w3 w4 := (Calm.alloc _ _ _).trans (Calm.grown hgrow4 (hg4.grownT (by decide)))
        have hI4 : OwnL 3 1 encI w4 X.heap.size (.slice da' nd' dc') dn := ((HV.out.2.2.2.2.2.below hB3 (Nat.le_refl _)).below (below1 w3 _) (Nat.le_refl _)).keptT hgrow4 (hg4.grownT (by decide))
        have hO4 : RecsO w4 X.heap.size (.slice a2 nl c2) Y2 := by
          have h1 := (HV.out.2.2.1.below hB3).below (below1 w3 (.cells #[.int .i64 dd, .slice a5 nx c5] 69))
          exact ⟨h1.1.keptT hgrow4 (hg4.grownT (by decide)), fun y hy => (h1.2 y hy).calm (Calm.grown hgrow4 (hg4.grownT (by decide)))⟩
        have HF : Hid (HAt B X.heap.size (.slice a2 nl c2) (w4.setCell ⟨B, 5, none⟩ (.slice a4 n4 c4)) ((s0, s1, s2, s3), D.take (k + 1), dn)) := by
          have := HAt.put5 HK4.out hown4 (fun x hx => by
            rcases List.mem_append.1 hx with hx | hx
            · exact ((HV.out.2.2.2.1 x hx).calm (Calm.below hB3 (Nat.le_refl _))).calm hC
            · rw [List.mem_singleton.1 hx]; exact HT3.out.calm hC) hI4
          rw [List.map_append, HV.out.2.2.2.2.1] at this
          rw [HE.out.1]
          exact this
        have HRf : Hid (RecsO (w4.setCell ⟨B, 5, none⟩ (.slice a4 n4 c4)) X.heap.size (.slice a2 nl c2) Y2) := ⟨hO4.1.setOther (a := ⟨B, 5, none⟩) HK4.out (by decide) _, fun y hy => (hO4.2 y hy).calm (Calm.setCell (a := ⟨B, 5, none⟩) HK4.out (by decide) _)⟩
        have hBf : Below X.heap.size X (w4.setCell ⟨B, 5, none⟩ (.slice a4 n4 c4)) := (((HV.out.2.1.trans (hB3.mono (by omega))).trans ((below1 w3 _).mono (by have := hB3.size; omega))).grown hgrow4 (by have := hB3.size; simp; omega) HO3.out.1.base).setCell HY2.out.2 _
        clear hgrow4 hg4 hC hI4 hown4 hO4 j0 j1 j5 j6 j5' j6'
        go_wp2
        go_roundw
        case rel => exact ⟨k + 1, by omega, by go_num, HF.out, HRf.out, hBf⟩
        case measure => simp [intOf]; omega
    · have hkn : k = nr := by omega
      subst hkn
      obtain ⟨hHA, hRO, hBw⟩ := hH.out
      rw [List.take_of_length_le (by have h1 := HN.out.2.1.1.n; rw [← HN.out.2.1.1.says, List.length_map]; omega)] at hHA
      obtain ⟨ra', nr', rc', Z, da', nd', dc', hB, hR, hT, hD, hI⟩ := hHA
      simp only at hB hD hI
      have hzb := (HB.out.2.2.below hBw HB.out.2.2.lt)
      obtain ⟨hW, hOnly⟩ := fill7 hzb (.slice a2 nl c2) (.int .i64 s0) (.int .i64 s1) (.int .i64 s2) (.int .i64 s3) (.slice ra' nr' rc') (.slice da' nd' dc')
      have hbw : Below w.heap.size w wr := HB.out.1.trans (hBw.mono HB.out.1.size)
      have hle : w.heap.size ≤ X.heap.size := HB.out.1.size
      have hKp := (fill7K hzb (.slice a2 nl c2) (.int .i64 s0) (.int .i64 s1) (.int .i64 s2) (.int .i64 s3) (.slice ra' nr' rc') (.slice da' nd' dc')).2
      have HF : Hid _ := And.intro hW (And.intro (show HouseN w.heap.size _ (.agg #[.slice a2 nl c2, .int .i64 s0, .int .i64 s1, .int .i64 s2, .int .i64 s3, .slice ra' nr' rc', .slice da' nd' dc']) (Y.map stripL) ((s0, s1, s2, s3), D, dn) from ⟨a2, nl, c2, Y2, ra', nr', rc', Z, da', nd', dc', rfl, ⟨HY2.out.1, (hRO.1.only hOnly (by decide)).mono hle, fun y hy => ((hRO.2 y hy).mono hle).calm (hOnly.calm (by decide))⟩, ⟨hD, (hR.only hOnly (by decide)).mono hle, fun x hx => ((hT x hx).mono hle).calm (hOnly.calm (by decide))⟩, (hI.only hOnly (by decide)).mono hle⟩) (hbw.trans (hKp.below hbw.size (fun k hk => by omega))))
      obtain ⟨⟨b0, b1, b2, b3, b4, b5, b6⟩, -⟩ := zcells hB
      obtain ⟨⟨n0, n1, n2, n3, n4, n5, n6⟩, f0, f1, f2, f3, f4, f5, f6⟩ := zcells hzb
      have hBl := hB.lt
      have hZl := hzb.lt
      clear hW hOnly hKp hB hzb hR hT hD hI hRO hH
      go_wp2_with fail
      clear b0 b1 b2 b3 b4 b5 b6 n0 n1 n2 n3 n4 n5 n6 f0 f1 f2 f3 f4 f5 f6
      obtain ⟨⟨e0, e1, e2, e3, e4, e5, e6⟩, -⟩ := zcells HF.out.1
      refine bodyPost_ret (v := (.agg #[.slice a2 nl c2, .int .i64 s0, .int .i64 s1, .int .i64 s2, .int .i64 s3, .slice ra' nr' rc', .slice da' nd' dc'])) ?_ rfl ⟨_, rfl, HF.out.2.1, HF.out.2.2⟩
      simp [results, Try.results30, go_sem, e0, e1, e2, e3, e4, e5, e6]

end Go.Proofs.Ytikmnaegalmfeaa
