/- LogTells, walked: called at whatever log and record it answers true and leaves all older memory as it was. -/
import Derived.Test.YtbdkkajmafjfbabRefG
import Derived.Test.YtbdkkajmafjfbabRefD
import Derived.Test.YtbdkkajmafjfbabSameH
import Derived.Test.YtbdkkajmafjfbabSameG
import Derived.Test.YtbdkkajmafjfbabLog6
import Derived.Test.YtbdkkajmafjfbabLog8
import Derived.Test.YtbdkkajmafjfbabLogR
import Derived.Test.YtbdkkajmafjfbabFresh
import Derived.Deep.RegionHeld3
namespace Go.Proofs.Ytbdkkajmafjfbab
open Go.RowKit
attribute [local go_sem ↓] Go.wp_at_zero Go.wp_at_succ

theorem headB_mem {L : List R3} {d : D2} : d ∈ (headB L).2 → ∃ r ∈ L, d = (r.2.1, r.2.2) := by
  suffices h : ∀ (M : List R3) (g : Int × List D2), d ∈ (M.foldl gstep g).2 → d ∈ g.2 ∨ ∃ r ∈ M, d = (r.2.1, r.2.2) from fun hd => by
    rcases h L _ hd with h | h
    · cases h
    · exact h
  intro M
  induction M with
  | nil => exact fun g h => Or.inl h
  | cons r M ih =>
    intro g h
    rw [List.foldl_cons] at h
    rcases ih _ h with h | ⟨q, hq, e⟩
    · unfold gstep at h
      split at h
      · exact Or.inl h
      · split at h
        · rcases List.mem_append.1 h with h | h
          · exact Or.inl h
          · exact Or.inr ⟨r, by simp, List.mem_singleton.1 h⟩
        · split at h
          · exact Or.inl (mem_dropD h).1
          · exact Or.inl h
    · exact Or.inr ⟨q, by simp [hq], e⟩
theorem headB_ok {L : List R3} (h : OkL L) (d : D2) (hd : d ∈ (headB L).2) : OkP d.2 := by
  obtain ⟨r, hr, rfl⟩ := headB_mem hd
  exact h r hr
theorem decidedB_ok {L : List R3} (h : OkL L) (d : D2) (hd : d ∈ decidedB L) : OkP d.2 := by
  obtain ⟨r, hr, rfl⟩ := List.mem_map.1 hd
  exact h r (List.mem_filter.1 hr).1
theorem HeadAt.gen {w : World} {v : Value} {L : List R3} {g : Int × List D2} (h : HeadAt w v L g) : HeadG w v L g.1 0 (g.2.map fun d => (d.1, d.2, true, [])) := by
  obtain ⟨la, nl, lc, Y, oa, no, oc, X, hv, h1, h4, h5, h6, h7⟩ := h
  refine ⟨la, nl, lc, Y, oa, no, oc, X.map fun x => (x.1, (x.2.1, x.2.2), true, ((none, 0), [])), hv, h1, by rw [List.length_map]; exact h4, ?_, ?_, ?_⟩
  · rw [← h5, List.map_map, List.map_map]
    rfl
  · rcases h6 with rfl | ⟨b, o, rfl, hlt, hc⟩
    · exact Or.inl rfl
    · refine Or.inr ⟨b, o, rfl, hlt, fun i hi j u hu => ?_⟩
      have hi' : i < X.length := by simpa using hi
      rw [List.getElem_map] at hu
      exact hc i hi' j u hu
  · intro y hy
    obtain ⟨x, hx, rfl⟩ := List.mem_map.1 hy
    exact ⟨h7 x hx, Or.inl rfl⟩

set_option maxRecDepth 20000 in
set_option maxHeartbeats 40000000 in
theorem logTells_any (a : Option Addr) (X : List XL) (cap n : Nat) (x : XL) (w : World) (hn : n = X.length) (hl : X.length ≤ 9223372036854775807) (hm : ∀ x ∈ X, x.2.2.2.length ≤ 9223372036854775807) (hmx : x.2.2.2.length ≤ 9223372036854775807) (hp : RecsAt w a X) (hq : PartsAt w x.2.2.1.1 x.2.2.2) :
    Calls Try.prog 6 #[.slice a n cap, .agg #[.int .i64 x.1, .int .i64 x.2.1, .slice x.2.2.1.1 x.2.2.2.length x.2.2.1.2]] w fun e w' => e = .returned (.bool true) ∧ Below w.heap.size w w' := by
  obtain ⟨kd, dd, ⟨ax, cx⟩, l⟩ := x
  simp only at hmx hq ⊢
  have HN : Hid (n = X.length ∧ (∀ x ∈ X, x.2.2.2.length ≤ 9223372036854775807) ∧ X.length ≤ 9223372036854775807 ∧ l.length ≤ 9223372036854775807) := ⟨hn, hm, hl, hmx⟩
  generalize hll : l.length = nx at *
  have HLL : Hid (l.length = nx) := hll
  have hr0 : Blk (w.alloc (.cells #[.int .i64 kd, .int .i64 dd, .slice ax nx cx] 45)) w.heap.size #[.int .i64 kd, .int .i64 dd, .slice ax nx cx] 45 := Blk.new _ _ _
  have hb0 := below1 w (.cells #[.int .i64 kd, .int .i64 dd, .slice ax nx cx] 45)
  have hp0 := hp.below hb0
  have hq0 := hq.below hb0
  clear hn hm hl hmx hp hq hll
  go_enter Try.func6, Try.ntmps6
  go_wp2_with fail
  generalize w.alloc (.cells #[.int .i64 kd, .int .i64 dd, .slice ax nx cx] 45) = w1 at *
  refine (rightLog_any a X cap n w1 HN.out.1 HN.out.2.2.1 HN.out.2.1 hp0).mono ?_
  rintro e w2 ⟨rfl, hb2⟩
  have hr2 := hr0.below hb2 hr0.lt
  have hbw2 : Below w.heap.size w w2 := hb0.trans (hb2.mono hb0.size)
  have HP2 : Hid (RecsAt w2 a X ∧ PartsAt w2 ax l) := ⟨hp0.below hb2, hq0.below hb2⟩
  clear hr0 hb0 hb2 hp0 hq0
  cases hz1 : rightLog (X.map stripL)
  · go_wp2
    go_ret
    exact ⟨rfl, hbw2⟩
  obtain ⟨hok, h60⟩ := rightLog_ok hz1
  rw [List.length_map] at h60
  have HOK : Hid (OkL (X.map stripL)) := hok
  clear hz1 hok
  have y0 := hr2.cell 0
  have y1 := hr2.cell 1
  have y2 := hr2.cell 2
  simp at y0 y1 y2
  go_wp2_with fail
  have hx3 : RecsAt (w2.alloc (.cells #[.int .i64 kd, .int .i64 dd, .slice ax nx cx] 45)) (some ⟨w2.heap.size, 0, none⟩) [(kd, dd, (ax, cx), l)] := ⟨RowAt.one (Blk.new _ _ _) (by simp [encL, HLL.out]), fun y hy => by rw [List.mem_singleton.1 hy]; exact HP2.out.2.below (below1 _ _)⟩
  refine (rightLog_any (some ⟨w2.heap.size, 0, none⟩) [(kd, dd, (ax, cx), l)] 1 1 _ rfl (by simp) (fun y hy => by rw [List.mem_singleton.1 hy]; have := HN.out.2.2.2; have := HLL.out; show l.length ≤ _; omega) hx3).mono ?_
  rintro e w3 ⟨rfl, hb3⟩
  have hbr : Below w2.heap.size w2 w3 := (below1 w2 _).trans (hb3.mono (by simp))
  have hr3 := hr2.below hbr hr2.lt
  have hbw3 : Below w.heap.size w w3 := hbw2.trans (hbr.mono hbw2.size)
  have HP3 : Hid (RecsAt w3 a X ∧ PartsAt w3 ax l) := ⟨HP2.out.1.below hbr, HP2.out.2.below hbr⟩
  clear hx3 hb3 hbr hr2 hbw2 HP2 y0 y1 y2
  cases hz2 : rightLog ([(kd, dd, (ax, cx), l)].map stripL)
  · go_wp2
    go_ret
    exact ⟨rfl, hbw3⟩
  have hokx : OkP l := (rightLog_ok hz2).1 (kd, dd, l) (by simp [stripL])
  have HOX : Hid (OkL (X.map stripL ++ [(kd, dd, l)])) := fun r hr => by
    rcases List.mem_append.1 hr with hr | hr
    · exact HOK.out r hr
    · rw [List.mem_singleton.1 hr]; exact hokx
  clear hz2 hokx
  go_wp2_with fail
  refine (house_any a X cap n w3 HN.out.1 (by omega) HOK.out HP3.out.1).mono ?_
  rintro e w4 ⟨v4, rfl, hh4, hb4⟩
  have hr4 := hr3.below hb4 hr3.lt
  have hbw4 : Below w.heap.size w w4 := hbw3.trans (hb4.mono hbw3.size)
  have HP4 : Hid (RecsAt w4 a X ∧ PartsAt w4 ax l ∧ HouseAt w4 v4 (X.map stripL) (houseB (X.map stripL))) := ⟨HP3.out.1.below hb4, HP3.out.2.below hb4, hh4.at⟩
  clear hr3 hbw3 HP3 hb4 hh4
  go_wp2_with fail
  refine (refHouse_any a X cap n w4 HN.out.1 (CalcL.of HOK.out (by simp; omega)) HP4.out.1).mono ?_
  rintro e w5 ⟨v5, rfl, hh5, hb5⟩
  have hr5 := hr4.below hb5 hr4.lt
  have hbw5 : Below w.heap.size w w5 := hbw4.trans (hb5.mono hbw4.size)
  have hx5 := HP4.out.2.2.below hb5
  have HSZ : Hid (SizeH (X.map stripL) (houseB (X.map stripL)) ∧ SizeH (X.map stripL ++ [(kd, dd, l)]) (houseB (X.map stripL ++ [(kd, dd, l)]))) := ⟨sizeH_of HOK.out (by simp; omega) (houseB_inv HOK.out) (by simp; omega), sizeH_of HOX.out (by simp; omega) (houseB_inv HOX.out) (by simp; omega)⟩
  have HP5 : Hid (RecsAt w5 a X ∧ PartsAt w5 ax l ∧ HouseAt w5 v4 (X.map stripL) (houseB (X.map stripL)) ∧ HouseAt w5 v5 (X.map stripL) (houseB (X.map stripL))) := ⟨HP4.out.1.below hb5, HP4.out.2.1.below hb5, hx5, hh5⟩
  generalize hhb : houseB (X.map stripL) = h at *
  obtain ⟨⟨s0, s1, s2, s3⟩, DD, dn⟩ := h
  obtain ⟨la, nl, lc, Y, ra, nr, rc, XR, da, nd, dc, rfl, -⟩ := hx5
  obtain ⟨lb, ml, ld, Z, rb, mr, rd, XS, db, md, de, rfl, ⟨hml, hZ, hrz⟩, -⟩ := hh5
  have HZ : Hid (ml = Z.length ∧ Z.map stripL = X.map stripL ∧ RecsAt w5 lb Z) := ⟨by rw [hml, ← hZ, List.length_map], hZ, hrz⟩
  clear hhb hml hZ hrz hr4 hbw4 HP4 hb5
  simp only
  have hBY := below2 w5 (.cells #[.slice la nl lc, .int .i64 s0, .int .i64 s1, .int .i64 s2, .int .i64 s3, .slice ra nr rc, .slice da nd dc] 49) (.cells #[.slice lb ml ld, .int .i64 s0, .int .i64 s1, .int .i64 s2, .int .i64 s3, .slice rb mr rd, .slice db md de] 49)
  have hxY : Blk ((w5.alloc (.cells #[.slice la nl lc, .int .i64 s0, .int .i64 s1, .int .i64 s2, .int .i64 s3, .slice ra nr rc, .slice da nd dc] 49)).alloc (.cells #[.slice lb ml ld, .int .i64 s0, .int .i64 s1, .int .i64 s2, .int .i64 s3, .slice rb mr rd, .slice db md de] 49)) w5.heap.size #[.slice la nl lc, .int .i64 s0, .int .i64 s1, .int .i64 s2, .int .i64 s3, .slice ra nr rc, .slice da nd dc] 49 := (Blk.new _ _ _).alloc _
  have hyY : Blk ((w5.alloc (.cells #[.slice la nl lc, .int .i64 s0, .int .i64 s1, .int .i64 s2, .int .i64 s3, .slice ra nr rc, .slice da nd dc] 49)).alloc (.cells #[.slice lb ml ld, .int .i64 s0, .int .i64 s1, .int .i64 s2, .int .i64 s3, .slice rb mr rd, .slice db md de] 49)) (w5.heap.size + 1) #[.slice lb ml ld, .int .i64 s0, .int .i64 s1, .int .i64 s2, .int .i64 s3, .slice rb mr rd, .slice db md de] 49 := heap2 _ _ _
  go_upto_region 4 with fail
  generalize (w5.alloc (.cells #[.slice la nl lc, .int .i64 s0, .int .i64 s1, .int .i64 s2, .int .i64 s3, .slice ra nr rc, .slice da nd dc] 49)).alloc (.cells #[.slice lb ml ld, .int .i64 s0, .int .i64 s1, .int .i64 s2, .int .i64 s3, .slice rb mr rd, .slice db md de] 49) = Y1 at *
  have hrY := hr5.below hBY hr5.lt
  have HB : Hid (Below w.heap.size w Y1) := hbw5.trans (hBY.mono hbw5.size)
  have hYr := hrY.lt
  have hYy := hyY.lt
  have HK : Hid (∀ w', Below Y1.heap.size Y1 w' → ((w'.cell? ⟨w.heap.size, 0, none⟩ = some (.int .i64 kd) ∧ w'.cell? ⟨w.heap.size, 1, none⟩ = some (.int .i64 dd) ∧ w'.cell? ⟨w.heap.size, 2, none⟩ = some (.slice ax nx cx)) ∧ (w'.cell? ⟨w5.heap.size, 0, none⟩ = some (.slice la nl lc) ∧ w'.cell? ⟨w5.heap.size, 1, none⟩ = some (.int .i64 s0) ∧ w'.cell? ⟨w5.heap.size, 2, none⟩ = some (.int .i64 s1) ∧ w'.cell? ⟨w5.heap.size, 3, none⟩ = some (.int .i64 s2) ∧ w'.cell? ⟨w5.heap.size, 4, none⟩ = some (.int .i64 s3) ∧ w'.cell? ⟨w5.heap.size, 5, none⟩ = some (.slice ra nr rc) ∧ w'.cell? ⟨w5.heap.size, 6, none⟩ = some (.slice da nd dc)) ∧ (w'.cell? ⟨w5.heap.size + 1, 0, none⟩ = some (.slice lb ml ld) ∧ w'.cell? ⟨w5.heap.size + 1, 1, none⟩ = some (.int .i64 s0) ∧ w'.cell? ⟨w5.heap.size + 1, 2, none⟩ = some (.int .i64 s1) ∧ w'.cell? ⟨w5.heap.size + 1, 3, none⟩ = some (.int .i64 s2) ∧ w'.cell? ⟨w5.heap.size + 1, 4, none⟩ = some (.int .i64 s3) ∧ w'.cell? ⟨w5.heap.size + 1, 5, none⟩ = some (.slice rb mr rd) ∧ w'.cell? ⟨w5.heap.size + 1, 6, none⟩ = some (.slice db md de)))) := fun w' hb =>
    ⟨⟨(hrY.below hb hrY.lt).cell 0, (hrY.below hb hrY.lt).cell 1, (hrY.below hb hrY.lt).cell 2⟩, ⟨(hxY.below hb hxY.lt).cell 0, (hxY.below hb hxY.lt).cell 1, (hxY.below hb hxY.lt).cell 2, (hxY.below hb hxY.lt).cell 3, (hxY.below hb hxY.lt).cell 4, (hxY.below hb hxY.lt).cell 5, (hxY.below hb hxY.lt).cell 6⟩, ⟨(hyY.below hb hyY.lt).cell 0, (hyY.below hb hyY.lt).cell 1, (hyY.below hb hyY.lt).cell 2, (hyY.below hb hyY.lt).cell 3, (hyY.below hb hyY.lt).cell 4, (hyY.below hb hyY.lt).cell 5, (hyY.below hb hyY.lt).cell 6⟩⟩
  have HC1 : Hid (∀ w', Below Y1.heap.size Y1 w' → Calls Try.prog 19 #[.agg #[.slice la nl lc, .int .i64 s0, .int .i64 s1, .int .i64 s2, .int .i64 s3, .slice ra nr rc, .slice da nd dc], .agg #[.slice lb ml ld, .int .i64 s0, .int .i64 s1, .int .i64 s2, .int .i64 s3, .slice rb mr rd, .slice db md de]] w' fun e w'' => e = .returned (.bool true) ∧ Below w'.heap.size w' w'') := fun w' hb => sameHouse_any _ _ _ _ w' ((HP5.out.2.2.1.below hBY).below hb) ((HP5.out.2.2.2.below hBY).below hb) HSZ.out.1
  have HC2 : Hid (∀ w', Below Y1.heap.size Y1 w' → Calls Try.prog 20 #[.agg #[.slice lb ml ld, .int .i64 s0, .int .i64 s1, .int .i64 s2, .int .i64 s3, .slice rb mr rd, .slice db md de], .agg #[.int .i64 kd, .int .i64 dd, .slice ax nx cx]] w' fun e w'' => ∃ v, e = .returned v ∧ HouseAt w'' v (X.map stripL ++ [(kd, dd, l)]) (houseB (X.map stripL ++ [(kd, dd, l)])) ∧ Below w'.heap.size w' w'') := fun w' hb => by
    have hmap : (Z ++ [((kd, dd, (ax, cx), l) : XL)]).map stripL = X.map stripL ++ [(kd, dd, l)] := by rw [List.map_append, HZ.out.2.1]; rfl
    have hZ60 : Z.length ≤ 60 := by have := congrArg List.length HZ.out.2.1; simp at this; omega
    have h := note_any lb rb db ml ld mr rd md de s0 s1 s2 s3 Z (kd, dd, (ax, cx), l) w' HZ.out.1 (by omega) (by rw [hmap]; exact HOX.out) ((HZ.out.2.2.below hBY).below hb) ((HP5.out.2.1.below hBY).below hb)
    rw [hmap] at h
    simp only [HLL.out] at h
    refine h.mono ?_
    rintro e w'' ⟨v, rfl, hv, hb'⟩
    exact ⟨v, rfl, hv.at, hb'⟩
  have HC3 : Hid (∀ w', Below Y1.heap.size Y1 w' → RecsAt w' a X ∧ PartsAt w' ax l) := fun w' hb => ⟨(HP5.out.1.below hBY).below hb, (HP5.out.2.1.below hBY).below hb⟩
  clear hxY hyY hrY hr5 hbw5 hBY HP5 HZ
  go_cut [44] (fun v wx => v = .bool false ∧ Hid (Below Y1.heap.size Y1 wx))
  case first =>
    go_region_held3 (fun w' => ((w'.cell? ⟨w.heap.size, 0, none⟩ = some (.int .i64 kd) ∧ w'.cell? ⟨w.heap.size, 1, none⟩ = some (.int .i64 dd) ∧ w'.cell? ⟨w.heap.size, 2, none⟩ = some (.slice ax nx cx)) ∧ (w'.cell? ⟨w5.heap.size, 0, none⟩ = some (.slice la nl lc) ∧ w'.cell? ⟨w5.heap.size, 1, none⟩ = some (.int .i64 s0) ∧ w'.cell? ⟨w5.heap.size, 2, none⟩ = some (.int .i64 s1) ∧ w'.cell? ⟨w5.heap.size, 3, none⟩ = some (.int .i64 s2) ∧ w'.cell? ⟨w5.heap.size, 4, none⟩ = some (.int .i64 s3) ∧ w'.cell? ⟨w5.heap.size, 5, none⟩ = some (.slice ra nr rc) ∧ w'.cell? ⟨w5.heap.size, 6, none⟩ = some (.slice da nd dc)) ∧ (w'.cell? ⟨w5.heap.size + 1, 0, none⟩ = some (.slice lb ml ld) ∧ w'.cell? ⟨w5.heap.size + 1, 1, none⟩ = some (.int .i64 s0) ∧ w'.cell? ⟨w5.heap.size + 1, 2, none⟩ = some (.int .i64 s1) ∧ w'.cell? ⟨w5.heap.size + 1, 3, none⟩ = some (.int .i64 s2) ∧ w'.cell? ⟨w5.heap.size + 1, 4, none⟩ = some (.int .i64 s3) ∧ w'.cell? ⟨w5.heap.size + 1, 5, none⟩ = some (.slice rb mr rd) ∧ w'.cell? ⟨w5.heap.size + 1, 6, none⟩ = some (.slice db md de)))) (
      first
      | exact HK.out _ (below_drewN hO _)
      | exact HK.out _ hO
      | exact HK.out _ hS
      | exact HK.out _ hH
      | exact HK.out _ h33
      | exact HK.out _ h30
      | exact HK.out _ (h30.alloc h30.size _)
      | exact HK.out _ hN
      | exact HK.out _ (hN.alloc hN.size _)
      | exact HK.out _ ((hN.alloc hN.size _).alloc (by first | omega | (simp; omega) | simp) _)
      | exact HK.out _ hA
      | exact HK.out _ (hA.alloc hA.size _)
      | exact HK.out _ ((hA.alloc hA.size _).alloc (by first | omega | (simp; omega) | simp) _)
      | exact HK.out _ (Below.refl _ _)
      | exact HK.out _ (Below.refl _ _).drew) (
      first
      | (go_at_call 21; refine (sameLog_q aO a YO X cO cap n n _ HO.out.2.2 HN.out.1 HO.out.1 (by have := HO.out.2.2; have := HN.out.1; omega) (fun y hy => Nat.le_trans (HOK.out (stripL y) (by rw [← HO.out.1]; exact List.mem_map_of_mem hy)).1 (by decide)) HO.out.2.1 (HC3.out _ hO).1).mono ?_; rintro e wL ⟨rfl, mL, rfl⟩)
      | (go_at_call 22; refine (own_any a X cap n _ HN.out.1 (by omega) HOK.out (HC3.out _ hS).1).mono ?_; rintro e wO ⟨aO, cO, YO, rfl, hYO, hrO, hbO⟩; have hO : Below Y1.heap.size Y1 wO := hS.trans (hbO.mono hS.size); have HO : Hid (YO.map stripL = X.map stripL ∧ RecsAt wO aO YO ∧ n = YO.length) := ⟨hYO, hrO.at, (by have := congrArg List.length hYO; simp at this; have := HN.out.1; omega)⟩; clear hYO hrO hbO)
      | (go_at_call 19; refine (sameHouse_any vN vH (X.map stripL ++ [(kd, dd, l)]) (houseB (X.map stripL ++ [(kd, dd, l)])) _ (HHN.out _ hHN) HHH.out HSZ.out.2).mono ?_; rintro e wS ⟨rfl, hbS⟩; have hSN : Below wN.heap.size wN wS := hHN.trans (hbS.mono hHN.size); have hS : Below Y1.heap.size Y1 wS := hN.trans (hSN.mono hNY); clear hbS)
      | (go_at_call 18; refine (refHouse_any a33 (X ++ [(kd, dd, (ax, cx), l)]) c33 n33 _ HO33.out.2 (CalcL.of (by rw [List.map_append]; exact HOX.out) (by simp; omega)) HO33.out.1).mono ?_; rintro e wH ⟨vH, rfl, hhH, hbH⟩; have hHN : Below wN.heap.size wN wH := h33N.trans (hbH.mono h33N.size); rw [List.map_append] at hhH; have HHH : Hid (HouseAt wH vH (X.map stripL ++ [(kd, dd, l)]) (houseB (X.map stripL ++ [(kd, dd, l)]))) := hhH; have hH : Below Y1.heap.size Y1 wH := hN.trans (hHN.mono hNY); clear hhH hbH)
      | (refine step_append_fresh lenL oneL Try.underlying43 infoRec rfl (by decide) _ (by first | rfl | simp [Region.wanted, yielded]) (.tmp 30) (.tmp 32) rfl _ (.slice a30 n30 c30) X rfl (by first | exact HO30.out | exact HO30.out.below (below1 w30 _)) _ 1 1 [(kd, dd, (ax, cx), l)] rfl rfl (by first | exact RowAt.one (Blk.new _ _ _) (by simp [encL, HLL.out]) | exact RowAt.one (Blk.below (Blk.new _ _ _) hb30 (by first | omega | (simp; omega) | simp)) (by simp [encL, HLL.out]) | exact RowAt.one (Blk.below ((Blk.new _ _ _).alloc _) hb30 (by first | omega | (simp; omega) | simp)) (by simp [encL, HLL.out]) | exact RowAt.one (Blk.below (heap2 _ _ _) hb30 (by first | omega | (simp; omega) | simp)) (by simp [encL, HLL.out]) | exact RowAt.one (Blk.below ((Blk.new _ _ _).below hbN (by first | omega | (simp; omega) | simp)) hb30 (by first | omega | (simp; omega) | simp)) (by simp [encL, HLL.out]) | exact RowAt.one (Blk.below (((Blk.new _ _ _).alloc _).below hbN (by first | omega | (simp; omega) | simp)) hb30 (by first | omega | (simp; omega) | simp)) (by simp [encL, HLL.out]) | exact RowAt.one (Blk.below (Blk.below (heap2 _ _ _) hbN (by first | omega | (simp; omega) | simp)) hb30 (by first | omega | (simp; omega) | simp)) (by simp [encL, HLL.out]) | exact RowAt.one (Blk.below (((Blk.new _ _ _).below hbN (by first | omega | (simp; omega) | simp)).alloc _) hb30 (by first | omega | (simp; omega) | simp)) (by simp [encL, HLL.out])) (by unfold maxLen; simp; omega) (by simp; omega) (by first | omega | (simp; omega) | simp) ?_; intro a33 n33 c33 w33 hf33 hn33 hb33; have h33N : Below wN.heap.size wN w33 := (by first | exact h30N.trans (hb33.mono (by first | omega | (simp; omega) | simp)) | exact (h30N.alloc h30N.size _).trans (hb33.mono (by first | omega | (simp; omega) | simp))); have h33 : Below Y1.heap.size Y1 w33 := hN.trans (h33N.mono hNY); have HO33 : Hid (RecsAt w33 a33 (X ++ [(kd, dd, (ax, cx), l)]) ∧ n33 = (X ++ [((kd, dd, (ax, cx), l) : XL)]).length) := ⟨⟨(hf33.at lenL).1, (fun y hy => (by rcases List.mem_append.1 hy with hy | hy; exact (HC3.out _ h33).1.2 y hy; rw [List.mem_singleton.1 hy]; exact (HC3.out _ h33).2))⟩, (hf33.at lenL).2.1⟩; clear hf33 hn33 hb33)
      | (refine step_append_fresh lenL oneL Try.underlying43 infoRec rfl (by decide) _ (by first | rfl | simp [Region.wanted, yielded]) (.tmp 28) (.tmp 29) rfl _ _ [] rfl (by first | exact FreshL.made (Blk.new _ _ _) _ | exact FreshL.made ((Blk.new _ _ _).alloc _) _ | exact FreshL.made (heap2 _ _ _) _ | exact FreshL.made ((Blk.new _ _ _).below hbN (by first | omega | (simp; omega) | simp)) _ | exact FreshL.made (((Blk.new _ _ _).alloc _).below hbN (by first | omega | (simp; omega) | simp)) _ | exact FreshL.made (Blk.below (heap2 _ _ _) hbN (by first | omega | (simp; omega) | simp)) _ | exact FreshL.made (((Blk.new _ _ _).below hbN (by first | omega | (simp; omega) | simp)).alloc _) _) a n cap X rfl HN.out.1 (HC3.out _ (by first | exact hN | exact hN.alloc hN.size _ | exact (hN.alloc hN.size _).alloc (by first | omega | (simp; omega) | simp) _)).1.1 (by unfold maxLen; simp; omega) (by simp; omega) (Nat.le_refl _) ?_; intro a30 n30 c30 w30 hf30 hn30 hb30; have h30N : Below wN.heap.size wN w30 := (by first | exact hb30 | exact ((Below.refl _ _).alloc (Nat.le_refl _) _).trans (hb30.mono (by first | omega | (simp; omega) | simp)) | exact (((Below.refl _ _).alloc (Nat.le_refl _) _).alloc (by first | omega | (simp; omega) | simp) _).trans (hb30.mono (by first | omega | (simp; omega) | simp))); have h30 : Below Y1.heap.size Y1 w30 := hN.trans (h30N.mono hNY); have h30s := h30N.size; have h30b := hb30.size; (try simp at h30b); have h30r : w.heap.size < w30.heap.size := (by omega); have HO30 : Hid (FreshL 45 3 encL w30 _ (.slice a30 n30 c30) X) := hf30; clear hf30 hn30)
      | (go_at_call 20; refine (HC2.out _ (by first | exact hA | exact hA.alloc hA.size _ | exact (hA.alloc hA.size _).alloc (by first | omega | (simp; omega) | simp) _)).mono ?_; rintro e wN ⟨vN, rfl, hhN, hbN⟩; have hN : Below Y1.heap.size Y1 wN := (by first | exact hA.trans (hbN.mono hA.size) | exact (hA.alloc hA.size _).trans (hbN.mono (by first | omega | (simp; omega) | simp)) | exact ((hA.alloc hA.size _).alloc (by first | omega | (simp; omega) | simp) _).trans (hbN.mono (by first | omega | (simp; omega) | simp))); have hNs := hbN.size; (try simp at hNs); have hNY := hN.size; have hNr : w.heap.size < wN.heap.size := (by omega); have hNr1 : w.heap.size < wN.heap.size + 1 := (by omega); have HHN : Hid (∀ w', Below wN.heap.size wN w' → HouseAt w' vN (X.map stripL ++ [(kd, dd, l)]) (houseB (X.map stripL ++ [(kd, dd, l)]))) := (fun w' hb => hhN.below hb); clear hhN)
      | (go_at_call 19; refine (HC1.out _ (Below.refl _ _).drew).mono ?_; rintro e wA ⟨rfl, hbA⟩; have hA : Below Y1.heap.size Y1 wA := ((Below.refl _ _).drew).trans (hbA.mono (Nat.le_refl _)); have hAs := hA.size; have hAr : w.heap.size < wA.heap.size := (by omega); have hAy : w5.heap.size + 1 < wA.heap.size := (by omega); have hAr1 : w.heap.size < wA.heap.size + 1 := (by omega); have hAy1 : w5.heap.size + 1 < wA.heap.size + 1 := (by omega); clear hbA))
    all_goals
      have HM : Hid (Below Y1.heap.size Y1 (wO.drewN mL)) := below_drewN hO _
      go_wp2_with fail
      go_meet
      case rel => exact ⟨rfl, HM⟩
  case rest =>
  obtain ⟨rfl, hcut⟩ := hcut
  have HW : Hid (Below w.heap.size w wc) := HB.out.trans (hcut.out.mono HB.out.size)
  have HRX : Hid (∀ w', Below wc.heap.size wc w' → RecsAt w' a X) := fun w' hb => (HC3.out _ (hcut.out.trans (hb.mono hcut.out.size))).1
  clear hcut HK HC1 HC2 HC3 HSZ
  go_wp2_with fail
  refine (head_any a X cap n _ HN.out.1 (by omega) HOK.out (HRX.out _ (Below.refl _ _))).mono ?_
  rintro e w6 ⟨v6, rfl, hh6, hb6⟩
  have H6 : Hid (HeadG w6 v6 (X.map stripL) (headB (X.map stripL)).1 0 ((headB (X.map stripL)).2.map fun d => (d.1, d.2, true, [])) ∧ Below wc.heap.size wc w6) := ⟨hh6.gen, hb6⟩
  clear hh6 hb6
  go_wp2_with fail
  refine (refHead_any a X cap n _ HN.out.1 (by omega) (HRX.out _ H6.out.2)).mono ?_
  rintro e w7 ⟨v7, rfl, hh7, hb7⟩
  have H7 : Hid (HeadG w7 v6 (X.map stripL) (headB (X.map stripL)).1 0 ((headB (X.map stripL)).2.map fun d => (d.1, d.2, true, [])) ∧ HeadG w7 v7 (X.map stripL) (headB (X.map stripL)).1 0 ((headB (X.map stripL)).2.map fun d => (d.1, d.2, true, [])) ∧ Below wc.heap.size wc w7) := ⟨H6.out.1.below hb7, hh7.gen, H6.out.2.trans (hb7.mono H6.out.2.size)⟩
  have HSG : Hid (SizeG (X.map stripL) ((headB (X.map stripL)).2.map fun d => (d.1, d.2, true, []))) := by
    refine ⟨⟨by simp; omega, fun r hr => by have := (HOK.out r hr).1; omega⟩, ?_, fun y hy => ?_⟩
    · have := (headB_inv (X.map stripL)).2.2
      simp at this ⊢
      omega
    · obtain ⟨d, hd, rfl⟩ := List.mem_map.1 hy
      have := headB_ok HOK.out d hd
      exact ⟨by have := this.1; simp only; omega, by simp⟩
  clear hh7 hb7 H6
  go_wp2_with fail
  refine (sameHead_any v6 v7 _ _ _ _ _ H7.out.1 H7.out.2.1 HSG.out).mono ?_
  rintro e w8 ⟨rfl, hb8⟩
  have H8 : Hid (Below wc.heap.size wc w8) := H7.out.2.2.trans (hb8.mono H7.out.2.2.size)
  clear hb8 H7
  go_wp2_with fail
  refine (decided_any a X cap n _ HN.out.1 (by omega) HOK.out (HRX.out _ H8.out)).mono ?_
  rintro e w9 ⟨a9, n9, c9, Z9, rfl, hn9, hZ9, hd9, hb9⟩
  have H9 : Hid (n9 = Z9.length ∧ Z9.map stripD = decidedB (X.map stripL) ∧ DeedsAt w9 a9 Z9 ∧ Below wc.heap.size wc w9) := ⟨hn9, hZ9, hd9, H8.out.trans (hb9.mono H8.out.size)⟩
  clear hn9 hZ9 hd9 hb9 H8
  go_wp2_with fail
  refine (refDecided_any a X cap n _ HN.out.1 (by omega) (HRX.out _ H9.out.2.2.2)).mono ?_
  rintro e w10 ⟨a10, n10, c10, Z10, rfl, hn10, hZ10, hd10, hb10⟩
  have H10 : Hid (n10 = Z10.length ∧ Z9.map stripD = Z10.map stripD ∧ DeedsAt w10 a9 Z9 ∧ DeedsAt w10 a10 Z10 ∧ Below wc.heap.size wc w10) := ⟨hn10, by rw [H9.out.2.1, hZ10], H9.out.2.2.1.below hb10, hd10, H9.out.2.2.2.trans (hb10.mono H9.out.2.2.2.size)⟩
  have HZ9 : Hid (Z9.length ≤ 60 ∧ ∀ x ∈ Z9, x.2.2.length ≤ 9223372036854775807) := by
    constructor
    · have h1 := congrArg List.length H9.out.2.1
      have h2 := decidedB_len (X.map stripL)
      simp at h1 h2
      omega
    · intro x hx
      have : stripD x ∈ decidedB (X.map stripL) := by rw [← H9.out.2.1]; exact List.mem_map_of_mem hx
      have := decidedB_ok HOK.out _ this
      have := this.1
      simp only [stripD] at this
      omega
  clear hn10 hZ10 hd10 hb10
  go_wp2_with fail
  refine (sameReady_q a9 a10 Z9 Z10 c9 c10 n9 n10 _ H9.out.1 H10.out.1 H10.out.2.1 (by have := HZ9.out.1; omega) HZ9.out.2 H10.out.2.2.1 H10.out.2.2.2.1).mono ?_
  rintro e w11 ⟨rfl, m11, rfl⟩
  have HF : Hid (Below w.heap.size w (w10.drewN m11)) := below_drewN (HW.out.trans (H10.out.2.2.2.2.mono HW.out.size)) _
  go_wp2
  go_ret
  exact ⟨ret_bool (by simp), HF.out⟩

end Go.Proofs.Ytbdkkajmafjfbab
