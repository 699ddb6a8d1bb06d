/- LogStill, walked: called at whatever log and record it answers true and leaves all older memory as it was. -/
import Derived.Test.YtbdkkajmafjfbacLogA
import Derived.Test.YtbdkkajmafjfbacLogR
namespace Go.Proofs.Ytbdkkajmafjfbac
open Go.RowKit
attribute [local go_sem ↓] Go.wp_at_zero Go.wp_at_succ
attribute [local go_sem ↓] eq4

def stillB (D : List D2) (kd dd : Int) (s : S4) : S4 := D.foldl (fun s x => if x.1 = dd ∧ kd = 2 then doB s x.2 else s) s
theorem stillB_snoc (D : List D2) (x : D2) (kd dd : Int) (s : S4) : stillB (D ++ [x]) kd dd s = if x.1 = dd ∧ kd = 2 then doB (stillB D kd dd s) x.2 else stillB D kd dd s := by simp [stillB]
theorem stillB_not {kd : Int} (h : ¬ kd = 2) (dd : Int) : ∀ (D : List D2) (s : S4), stillB D kd dd s = s
  | [], _ => rfl
  | x :: t, s => by
    have e : stillB (x :: t) kd dd s = stillB t kd dd (if x.1 = dd ∧ kd = 2 then doB s x.2 else s) := rfl
    rw [e, if_neg (fun h' => h h'.2)]
    exact stillB_not h dd t s
theorem stillB_none {kd dd : Int} : ∀ (D : List D2) (s : S4), (∀ x ∈ D, x.1 ≠ dd) → stillB D kd dd s = s
  | [], _, _ => rfl
  | x :: t, s, h => by
    have e : stillB (x :: t) kd dd s = stillB t kd dd (if x.1 = dd ∧ kd = 2 then doB s x.2 else s) := rfl
    rw [e, if_neg (fun h' => h x (by simp) h'.1)]
    exact stillB_none t s (fun y hy => h y (by simp [hy]))
theorem stillB_two {dd : Int} : ∀ (D : List D2) (s : S4), (D.map (·.1)).Nodup → stillB D 2 dd s = if hasD D dd = true then doB s (firstP D dd) else s
  | [], _, _ => rfl
  | x :: t, s, h => by
    have e : stillB (x :: t) 2 dd s = stillB t 2 dd (if x.1 = dd ∧ (2 : Int) = 2 then doB s x.2 else s) := rfl
    rw [List.map_cons, List.nodup_cons] at h
    by_cases hx : x.1 = dd
    · rw [e, if_pos ⟨hx, rfl⟩, stillB_none t _ (fun y hy hd => h.1 (List.mem_map.2 ⟨y, hy, by rw [hd, hx]⟩))]
      simp [hasD, firstP, hx]
    · have e1 : hasD (x :: t) dd = hasD t dd := by simp [hasD, decide_eq_false hx]
      have e2 : firstP (x :: t) dd = firstP t dd := by simp [firstP, decide_eq_false hx]
      rw [e, if_neg (fun h' => hx h'.1), stillB_two t s h.2, e1, e2]
theorem still_step {k : Nat} {h : H3} (H : HInv k h) (kd dd : Int) (l : List P3) : stillB h.2.1 kd dd h.1 = (hstep h (kd, dd, l)).1 := by
  unfold hstep
  simp only
  by_cases k1 : kd = 1
  · rw [if_pos k1, stillB_not (by omega)]
    split <;> rfl
  · rw [if_neg k1]
    by_cases k2 : kd = 2
    · subst k2
      rw [if_pos rfl, stillB_two _ _ H.nd]
      cases hasD h.2.1 dd <;> rfl
    · rw [if_neg k2, stillB_not k2]
      split <;> rfl
theorem still_within {B : Int} {kd dd : Int} : ∀ (D : List D2) (s : S4), Within B s → (∀ x ∈ D, OkP x.2) → Within (B + D.length * 4194304) (stillB D kd dd s)
  | [], s, h, _ => by simpa [stillB] using h
  | x :: t, s, h, ho => by
    have e : stillB (x :: t) kd dd s = stillB t kd dd (if x.1 = dd ∧ kd = 2 then doB s x.2 else s) := rfl
    obtain ⟨o1, o2, _⟩ := ho x (by simp)
    have h1 : Within (B + 4194304) (if x.1 = dd ∧ kd = 2 then doB s x.2 else s) := by
      split
      · exact within_mono (within_doB h o2) (by omega)
      · exact within_mono h (by omega)
    rw [e]
    refine within_mono (still_within t _ h1 (fun y hy => ho y (by simp [hy]))) ?_
    rw [List.length_cons]
    omega

set_option maxRecDepth 20000 in
set_option maxHeartbeats 4000000 in
theorem logStill_any (a : Option Addr) (X : List XL) (cap n : Nat) (x : XL) (w : World) (hn : n = X.length) (hl : X.length ≤ 9223372036854775807) (hm : ∀ x ∈ X, x.2.2.2.length ≤ 9223372036854775807) (hmx : x.2.2.2.length ≤ 9223372036854775807) (hp : RecsAt w a X) (hq : PartsAt w x.2.2.1.1 x.2.2.2) :
    Calls Try.prog 3 #[.slice a n cap, .agg #[.int .i64 x.1, .int .i64 x.2.1, .slice x.2.2.1.1 x.2.2.2.length x.2.2.1.2]] w fun e w' => e = .returned (.bool true) ∧ Below w.heap.size w w' := by
  obtain ⟨kd, dd, ⟨ax, cx⟩, l⟩ := x
  simp only at hmx hq ⊢
  have HN : Hid (n = X.length ∧ (∀ x ∈ X, x.2.2.2.length ≤ 9223372036854775807) ∧ X.length ≤ 9223372036854775807 ∧ l.length ≤ 9223372036854775807) := ⟨hn, hm, hl, hmx⟩
  generalize hll : l.length = nx at *
  have HLL : Hid (l.length = nx) := hll
  have hr0 : Blk (w.alloc (.cells #[.int .i64 kd, .int .i64 dd, .slice ax nx cx] 25)) w.heap.size #[.int .i64 kd, .int .i64 dd, .slice ax nx cx] 25 := Blk.new _ _ _
  have hb0 := below1 w (.cells #[.int .i64 kd, .int .i64 dd, .slice ax nx cx] 25)
  have hp0 := hp.below hb0
  have hq0 := hq.below hb0
  clear hn hm hl hmx hp hq hll
  go_enter Try.func3, Try.ntmps3
  go_wp2_with fail
  generalize w.alloc (.cells #[.int .i64 kd, .int .i64 dd, .slice ax nx cx] 25) = W0 at *
  refine (alive_any W0).mono ?_
  rintro e w1 ⟨rfl, hb1⟩
  have hr1 := hr0.below hb1 hr0.lt
  have hbw1 : Below w.heap.size w w1 := hb0.trans (hb1.mono hb0.size)
  have HP1 : Hid (RecsAt w1 a X ∧ PartsAt w1 ax l) := ⟨hp0.below hb1, hq0.below hb1⟩
  clear hr0 hb0 hp0 hq0 hb1
  go_wp2_with fail
  refine (rightLog_any a X cap n w1 HN.out.1 HN.out.2.2.1 HN.out.2.1 HP1.out.1).mono ?_
  rintro e w2 ⟨rfl, hb2⟩
  have hr2 := hr1.below hb2 hr1.lt
  have hbw2 : Below w.heap.size w w2 := hbw1.trans (hb2.mono hbw1.size)
  have HP2 : Hid (RecsAt w2 a X ∧ PartsAt w2 ax l) := ⟨HP1.out.1.below hb2, HP1.out.2.below hb2⟩
  clear hr1 hbw1 hb2 HP1
  cases hz1 : rightLog (X.map stripL)
  · go_wp2
    go_ret
    exact ⟨rfl, hbw2⟩
  obtain ⟨hok, h60⟩ := rightLog_ok hz1
  rw [List.length_map] at h60
  have HOK : Hid (OkL (X.map stripL)) := hok
  clear hz1 hok
  have y0 := hr2.cell 0
  have y1 := hr2.cell 1
  have y2 := hr2.cell 2
  simp at y0 y1 y2
  go_wp2_with fail
  have hx3 : RecsAt (w2.alloc (.cells #[.int .i64 kd, .int .i64 dd, .slice ax nx cx] 25)) (some ⟨w2.heap.size, 0, none⟩) [(kd, dd, (ax, cx), l)] := ⟨RowAt.one (Blk.new _ _ _) (by simp [encL, HLL.out]), fun y hy => by rw [List.mem_singleton.1 hy]; exact HP2.out.2.below (below1 _ _)⟩
  refine (rightLog_any (some ⟨w2.heap.size, 0, none⟩) [(kd, dd, (ax, cx), l)] 1 1 _ rfl (by simp) (fun y hy => by rw [List.mem_singleton.1 hy]; have := HN.out.2.2.2; have := HLL.out; show l.length ≤ _; omega) hx3).mono ?_
  rintro e w3 ⟨rfl, hb3⟩
  have hbr : Below w2.heap.size w2 w3 := (below1 w2 _).trans (hb3.mono (by simp))
  have hr3 := hr2.below hbr hr2.lt
  have hbw3 : Below w.heap.size w w3 := hbw2.trans (hbr.mono hbw2.size)
  have HP3 : Hid (RecsAt w3 a X ∧ PartsAt w3 ax l) := ⟨HP2.out.1.below hbr, HP2.out.2.below hbr⟩
  clear hx3 hb3 hbr hr2 hbw2 HP2 y0 y1 y2
  cases hz2 : rightLog ([(kd, dd, (ax, cx), l)].map stripL)
  · go_wp2
    go_ret
    exact ⟨rfl, hbw3⟩
  have hokx : OkP l := (rightLog_ok hz2).1 (kd, dd, l) (by simp [stripL])
  clear hz2
  go_wp2_with fail
  refine (house_any a X cap n w3 HN.out.1 (by omega) HOK.out HP3.out.1).mono ?_
  rintro e w4 ⟨v4, rfl, hh4, hb4⟩
  have hr4 := hr3.below hb4 hr3.lt
  have hbw4 : Below w.heap.size w w4 := hbw3.trans (hb4.mono hbw3.size)
  have hq4 := HP3.out.2.below hb4
  have hinv := houseB_inv HOK.out
  rw [List.length_map] at hinv
  generalize hhb : houseB (X.map stripL) = h at *
  obtain ⟨⟨s0, s1, s2, s3⟩, DD, dn⟩ := h
  obtain ⟨la, nl, lc, Y, ra, nr, rc, XR, da, nd, dc, rfl, ⟨hnl, hY, hrec⟩, ⟨hnr, hXR, hdd⟩, hnd, _⟩ := hh4.at
  simp only at hXR hnr
  have HP4 : Hid (houseB (X.map stripL) = ((s0, s1, s2, s3), DD, dn) ∧ HInv X.length ((s0, s1, s2, s3), DD, dn) ∧ Y.map stripL = X.map stripL ∧ RecsAt w4 la Y ∧ XR.map stripD = DD ∧ DeedsAt w4 ra XR ∧ PartsAt w4 ax l ∧ nl = Y.length ∧ nr = XR.length ∧ OkP l) := ⟨hhb, hinv, hY, hrec, hXR, hdd, hq4, by rw [hnl, ← hY, List.length_map], hnr, hokx⟩
  clear hr3 hb4 hbw3 HP3 hq4 hinv hhb hh4 hnl hY hrec hXR hnr hdd hnd hokx
  simp only
  have y0 := hr4.cell 0
  have y1 := hr4.cell 1
  have y2 := hr4.cell 2
  simp at y0 y1 y2
  have hlt4 := hr4.lt
  go_wp2_with fail
  have hx4 : Blk (w4.alloc (.cells #[.slice la nl lc, .int .i64 s0, .int .i64 s1, .int .i64 s2, .int .i64 s3, .slice ra nr rc, .slice da nd dc] 32)) w4.heap.size #[.slice la nl lc, .int .i64 s0, .int .i64 s1, .int .i64 s2, .int .i64 s3, .slice ra nr rc, .slice da nd dc] 32 := Blk.new _ _ _
  have hb4' := below1 w4 (.cells #[.slice la nl lc, .int .i64 s0, .int .i64 s1, .int .i64 s2, .int .i64 s3, .slice ra nr rc, .slice da nd dc] 32)
  generalize w4.alloc (.cells #[.slice la nl lc, .int .i64 s0, .int .i64 s1, .int .i64 s2, .int .i64 s3, .slice ra nr rc, .slice da nd dc] 32) = W4 at *
  have hmap : (Y ++ [((kd, dd, (ax, cx), l) : XL)]).map stripL = X.map stripL ++ [(kd, dd, l)] := by rw [List.map_append, HP4.out.2.2.1]; rfl
  have hY60 : Y.length ≤ 60 := by have := congrArg List.length HP4.out.2.2.1; simp at this; omega
  have HNT := note_any la ra da nl lc nr rc nd dc s0 s1 s2 s3 Y (kd, dd, (ax, cx), l) W4 HP4.out.2.2.2.2.2.2.2.1 (by omega) (by
    rw [hmap]
    intro r hr
    rcases List.mem_append.1 hr with hr | hr
    · exact HOK.out r hr
    · rw [List.mem_singleton.1 hr]; exact HP4.out.2.2.2.2.2.2.2.2.2) (HP4.out.2.2.2.1.below hb4') (HP4.out.2.2.2.2.2.2.1.below hb4')
  rw [hmap, houseB_snoc, HP4.out.1] at HNT
  simp only [HLL.out] at HNT
  refine HNT.mono ?_
  rintro e w5 ⟨v5, rfl, hh5, hb5⟩
  have hbb : Below w4.heap.size w4 w5 := hb4'.trans (hb5.mono hb4'.size)
  have hx5 := hx4.below hb5 hx4.lt
  have hr5 := hr4.below hbb hr4.lt
  have hbw5 : Below w.heap.size w w5 := hbw4.trans (hbb.mono hbw4.size)
  have HST : Hid (stillB DD kd dd (s0, s1, s2, s3) = (hstep ((s0, s1, s2, s3), DD, dn) (kd, dd, l)).1) := still_step HP4.out.2.1 kd dd l
  clear HNT hmap
  generalize hstep ((s0, s1, s2, s3), DD, dn) (kd, dd, l) = h5 at *
  obtain ⟨⟨q0, q1, q2, q3⟩, D5, dn5⟩ := h5
  obtain ⟨la5, nl5, lc5, Y5, ra5, nr5, rc5, da5, nd5, dc5, rfl, hnl5, _, _, hnr5, hnd5⟩ := hh5.parts
  simp only
  have HP5 : Hid (DeedsAt w5 ra XR ∧ nr = XR.length ∧ XR.map stripD = DD ∧ HInv X.length ((s0, s1, s2, s3), DD, dn)) := ⟨HP4.out.2.2.2.2.2.1.below hbb, HP4.out.2.2.2.2.2.2.2.2.1, HP4.out.2.2.2.2.1, HP4.out.2.1⟩
  clear hh5 hnl5 hnr5 hnd5 hb5 hbb hb4' hx4 hr4 hbw4 HP4 hlt4 y0 y1 y2 hY60
  have z1 := hx5.cell 1
  have z2 := hx5.cell 2
  have z3 := hx5.cell 3
  have z4 := hx5.cell 4
  have z5 := hx5.cell 5
  simp at z1 z2 z3 z4 z5
  have hltx := hx5.lt
  go_upto_region 8 with fail
  have hB5V := below2 w5 (.cells #[.slice la5 nl5 lc5, .int .i64 q0, .int .i64 q1, .int .i64 q2, .int .i64 q3, .slice ra5 nr5 rc5, .slice da5 nd5 dc5] 32) (.cells #[.int .i64 s0, .int .i64 s1, .int .i64 s2, .int .i64 s3] 28)
  have hyV : Blk ((w5.alloc (.cells #[.slice la5 nl5 lc5, .int .i64 q0, .int .i64 q1, .int .i64 q2, .int .i64 q3, .slice ra5 nr5 rc5, .slice da5 nd5 dc5] 32)).alloc (.cells #[.int .i64 s0, .int .i64 s1, .int .i64 s2, .int .i64 s3] 28)) w5.heap.size #[.slice la5 nl5 lc5, .int .i64 q0, .int .i64 q1, .int .i64 q2, .int .i64 q3, .slice ra5 nr5 rc5, .slice da5 nd5 dc5] 32 := (Blk.new _ _ _).alloc _
  have hwV : Blk ((w5.alloc (.cells #[.slice la5 nl5 lc5, .int .i64 q0, .int .i64 q1, .int .i64 q2, .int .i64 q3, .slice ra5 nr5 rc5, .slice da5 nd5 dc5] 32)).alloc (.cells #[.int .i64 s0, .int .i64 s1, .int .i64 s2, .int .i64 s3] 28)) (w5.heap.size + 1) #[.int .i64 s0, .int .i64 s1, .int .i64 s2, .int .i64 s3] 28 := heap2 _ _ _
  have hsV : ((w5.alloc (.cells #[.slice la5 nl5 lc5, .int .i64 q0, .int .i64 q1, .int .i64 q2, .int .i64 q3, .slice ra5 nr5 rc5, .slice da5 nd5 dc5] 32)).alloc (.cells #[.int .i64 s0, .int .i64 s1, .int .i64 s2, .int .i64 s3] 28)).heap.size = w5.heap.size + 2 := by simp
  generalize (w5.alloc (.cells #[.slice la5 nl5 lc5, .int .i64 q0, .int .i64 q1, .int .i64 q2, .int .i64 q3, .slice ra5 nr5 rc5, .slice da5 nd5 dc5] 32)).alloc (.cells #[.int .i64 s0, .int .i64 s1, .int .i64 s2, .int .i64 s3] 28) = V at *
  have hxV := hx5.below hB5V hx5.lt
  have hrV := hr5.below hB5V hr5.lt
  have hSV : SumsAt V (w5.heap.size + 1) s0 s1 s2 s3 := ⟨⟨hwV.cell 0, hwV.cell 1, hwV.cell 2, hwV.cell 3⟩, hwV.free 0, hwV.free 1, hwV.free 2, hwV.free 3⟩
  have z5' := hxV.cell 5
  simp at z5'
  have HV : Hid (Blk V w.heap.size #[.int .i64 kd, .int .i64 dd, .slice ax nx cx] 25 ∧ Blk V w5.heap.size #[.slice la5 nl5 lc5, .int .i64 q0, .int .i64 q1, .int .i64 q2, .int .i64 q3, .slice ra5 nr5 rc5, .slice da5 nd5 dc5] 32 ∧ SumsAt V (w5.heap.size + 1) s0 s1 s2 s3 ∧ Below w5.heap.size w5 V ∧ Below w.heap.size w w5) := ⟨hrV, hyV, hSV, hB5V, hbw5⟩
  have hs5 := hbw5.size
  have hltr := hr5.lt
  have hltV := hrV.lt
  clear hyV hwV hSV hxV hrV hx5 hr5 hB5V hbw5 z1 z2 z3 z4 z5
  have hnr60 : nr ≤ 60 := by
    have h1 := HP5.out.2.2.2.few
    have h2 := HP5.out.2.1
    have h3 := congrArg List.length HP5.out.2.2.1
    simp at h1 h3
    omega
  go_wp2
  go_loopw [33] (fun i w' => ∃ (k : Nat) (t0 t1 t2 t3 : Int), k ≤ nr ∧ i = .int .i64 k ∧ Hid (stillB (DD.take k) kd dd (s0, s1, s2, s3) = (t0, t1, t2, t3)) ∧ SumsAt w' (w5.heap.size + 1) t0 t1 t2 t3 ∧ w5.heap.size + 2 ≤ w'.heap.size ∧ Below (w5.heap.size + 1) V w') (fun i _ => nr - (intOf i).toNat)
  case atStart => exact ⟨0, s0, s1, s2, s3, Nat.zero_le _, rfl, rfl, HV.out.2.2.1, by omega, Below.refl _ _⟩
  case round =>
    obtain ⟨k, t0, t1, t2, t3, hk, rfl, hst, hS, hszw, hbV⟩ := hrel
    by_cases hlt : k < nr
    · have hkX : k < XR.length := by have := HP5.out.2.1; omega
      have hkD : k < DD.length := by rw [← HP5.out.2.2.1, List.length_map]; exact hkX
      have hDk : DD[k] = (XR[k].1, XR[k].2.2) := by
        have : DD = XR.map stripD := HP5.out.2.2.1.symm
        subst this
        rw [List.getElem_map]
        rfl
      have hB5w : Below w5.heap.size w5 wr := HV.out.2.2.2.1.trans (hbV.mono (by omega))
      obtain ⟨b, o, rfl, hb, c0, c1, hq⟩ := (HP5.out.1.below hB5w).get hkX
      have hoky : OkP XR[k].2.2 := by
        have := HP5.out.2.2.2.ok DD[k] (List.getElem_mem hkD)
        rw [hDk] at this
        exact this
      have HSN : Hid (stillB (DD.take (k + 1)) kd dd (s0, s1, s2, s3) = if XR[k].1 = dd ∧ kd = 2 then doB (t0, t1, t2, t3) XR[k].2.2 else (t0, t1, t2, t3)) := by
        show _ = _
        rw [take_snoc hkD, stillB_snoc, hst.out, hDk]
      have hwi : Within 1000000000 (t0, t1, t2, t3) := by
        rw [← hst.out]
        have h1 := still_within (kd := kd) (dd := dd) (DD.take k) (s0, s1, s2, s3) HP5.out.2.2.2.within (fun x hx => HP5.out.2.2.2.ok x (List.mem_of_mem_take hx))
        refine within_mono h1 ?_
        have h2 : (DD.take k).length ≤ 60 := by simp; omega
        omega
      have hrw := HV.out.1.below hbV (by omega)
      have y0 := hrw.cell 0
      have y1 := hrw.cell 1
      simp at y0 y1
      have hwl := hrw.lt
      have hq5 := HP5.out.1.2 _ (List.getElem_mem hkX)
      clear hrw hst hDk hkD hq
      generalize XR[k] = y at *
      obtain ⟨yd, ⟨ya, yc⟩, yl⟩ := y
      simp only at c0 c1 hq5 hoky HSN
      have HQ : Hid (PartsAt w5 ya yl ∧ OkP yl ∧ Within 1000000000 (t0, t1, t2, t3)) := ⟨hq5, hoky, hwi⟩
      generalize hyl : yl.length = ny at *
      have HYL : Hid (yl.length = ny) := hyl
      have hny4 : ny ≤ 4 := by have := hoky.1; omega
      clear hq5 hoky hwi hyl
      have hSA := hS.below (below1 wr (.cells #[.int .i64 yd, .slice ya ny yc] 36)) (by omega)
      have hBA : Below (w5.heap.size + 1) V (wr.alloc (.cells #[.int .i64 yd, .slice ya ny yc] 36)) := hbV.alloc (by omega) _
      by_cases hyes : yd = dd ∧ kd = 2
      · obtain ⟨rfl, rfl⟩ := hyes
        rw [if_pos ⟨rfl, rfl⟩] at HSN
        have HA : Hid (SumsAt (wr.alloc (.cells #[.int .i64 yd, .slice ya ny yc] 36)) (w5.heap.size + 1) t0 t1 t2 t3 ∧ Below (w5.heap.size + 1) V (wr.alloc (.cells #[.int .i64 yd, .slice ya ny yc] 36))) := ⟨hSA, hBA⟩
        clear hSA hBA hS hbV hB5w
        generalize hwo : wr = wo at *
        clear hwo
        go_wp2
        go_loopw [50] (fun i w' => ∃ (j : Nat) (v0 v1 v2 v3 : Int), j ≤ ny ∧ i = .int .i64 j ∧ Hid (doB (t0, t1, t2, t3) (yl.take j) = (v0, v1, v2, v3)) ∧ SumsAt w' (w5.heap.size + 1) v0 v1 v2 v3 ∧ w5.heap.size + 2 ≤ w'.heap.size ∧ Below (w5.heap.size + 1) V w') (fun i _ => ny - (intOf i).toNat)
        case atStart => exact ⟨0, t0, t1, t2, t3, Nat.zero_le _, rfl, rfl, HA.out.1, by simp; omega, HA.out.2⟩
        case round =>
          obtain ⟨j, v0, v1, v2, v3, hj, rfl, hdo, hS, hszj, hbj⟩ := hrel
          by_cases hjl : j < ny
          · have hjy : j < yl.length := by rw [HYL.out]; exact hjl
            have hBj : Below w5.heap.size w5 wr := HV.out.2.2.2.1.trans (hbj.mono (by omega))
            rcases HQ.out.1.below hBj with hnil | ⟨pb, po, rfl, hpb, hpc⟩
            · exfalso; rw [hnil] at hjy; simp at hjy
            obtain ⟨d0, d1, d2⟩ := hpc j hjy
            have hpn := small_get HQ.out.2.1.2.1 hjy
            have hkey := HQ.out.2.1.2.2 _ (List.getElem_mem hjy)
            have HN : Hid (doB (t0, t1, t2, t3) (yl.take (j + 1)) = do1 (v0, v1, v2, v3) yl[j]) := by show _ = _; rw [take_snoc hjy, doB_snoc, hdo.out]
            have hW : Within (1000000000 + 4 * 1048576) (v0, v1, v2, v3) := by
              rw [← hdo.out]
              refine within_mono (within_doB HQ.out.2.2 (small_take HQ.out.2.1.2.1 j)) ?_
              have : (yl.take j).length ≤ 4 := by simp; omega
              omega
            clear hpc hdo
            generalize yl[j] = pp at *
            obtain ⟨p0, p1, p2⟩ := pp
            simp only at d0 d1 d2 hpn hkey HN
            have HN2 := HN.out
            simp only [do1, hkey, if_true] at HN2
            have h4 : p1 = 0 ∨ p1 = 1 ∨ p1 = 2 ∨ p1 = 3 := keyB_iff.1 hkey
            have hsA : w5.heap.size + 2 ≤ wr.heap.size := hszj
            have HX : Hid (SumsAt (wr.alloc (.cells #[.int .i64 p0, .int .i64 p1, .int .i64 p2] 38)) (w5.heap.size + 1) v0 v1 v2 v3 ∧ Below (w5.heap.size + 1) V (wr.alloc (.cells #[.int .i64 p0, .int .i64 p1, .int .i64 p2] 38))) := ⟨hS.below (below1 wr _) (by omega), hbj.alloc (by omega) _⟩
            have hU : Blk (wr.alloc (.cells #[.int .i64 p0, .int .i64 p1, .int .i64 p2] 38)) wr.heap.size #[.int .i64 p0, .int .i64 p1, .int .i64 p2] 38 := Blk.new _ _ _
            obtain ⟨⟨a1, a2⟩, ⟨b1, b2⟩, ⟨e1, e2⟩, ⟨g1, g2⟩⟩ := hW
            simp only at a1 a2 b1 b2 e1 e2 g1 g2
            obtain ⟨hp1, hp2⟩ := hpn
            go_upto_region 15 with fail
            have hUs : wr.heap.size + 1 = (wr.alloc (.cells #[.int .i64 p0, .int .i64 p1, .int .i64 p2] 38)).heap.size := by simp
            generalize wr.alloc (.cells #[.int .i64 p0, .int .i64 p1, .int .i64 p2] 38) = U at *
            obtain ⟨⟨m0, m1, m2, m3⟩, ⟨f0, f1, f2, f3⟩⟩ := HX.out.1
            have n1 := hU.cell 1
            have n2 := hU.cell 2
            simp at n1 n2
            clear HN hkey hbj hBj hS hU d0 d1 d2
            rcases h4 with rfl | rfl | rfl | rfl
            · simp only [sadd, ↓reduceIte] at HN2
              have HN3 : Hid _ := HN2
              clear HN2
              go_region
              go_wp2
              go_roundw
              case rel => exact ⟨j + 1, v0 + p2, v1, v2, v3, by omega, by go_num, HN3, (HX.out.1.put0 _).drew, by simp; omega, (HX.out.2.setCell (Nat.le_refl _) _).drew⟩
              case measure => simp [intOf]; omega
            · simp only [sadd, ↓reduceIte, Int.reduceEq] at HN2
              have HN3 : Hid _ := HN2
              clear HN2
              go_region
              go_wp2
              go_roundw
              case rel => exact ⟨j + 1, v0, v1 + p2, v2, v3, by omega, by go_num, HN3, (HX.out.1.put1 _).drew, by simp; omega, (HX.out.2.setCell (Nat.le_refl _) _).drew⟩
              case measure => simp [intOf]; omega
            · simp only [sadd, ↓reduceIte, Int.reduceEq] at HN2
              have HN3 : Hid _ := HN2
              clear HN2
              go_region
              go_wp2
              go_roundw
              case rel => exact ⟨j + 1, v0, v1, v2 + p2, v3, by omega, by go_num, HN3, (HX.out.1.put2 _).drew, by simp; omega, (HX.out.2.setCell (Nat.le_refl _) _).drew⟩
              case measure => simp [intOf]; omega
            · simp only [sadd, ↓reduceIte, Int.reduceEq] at HN2
              have HN3 : Hid _ := HN2
              clear HN2
              go_region
              go_wp2
              go_roundw
              case rel => exact ⟨j + 1, v0, v1, v2, v3 + p2, by omega, by go_num, HN3, (HX.out.1.put3 _).drew, by simp; omega, (HX.out.2.setCell (Nat.le_refl _) _).drew⟩
              case measure => simp [intOf]; omega
          · have hjn : j = ny := by omega
            have HE : Hid (stillB (DD.take (k + 1)) 2 yd (s0, s1, s2, s3) = (v0, v1, v2, v3)) := by
              show _ = _
              have e1 := hdo.out
              rw [List.take_of_length_le (by rw [HYL.out]; omega)] at e1
              rw [HSN.out, e1]
            clear hdo
            go_wp2
            go_roundw
            case rel => exact ⟨k + 1, v0, v1, v2, v3, by omega, by go_num, HE, hS, hszj, hbj⟩
            case measure => simp [intOf]; omega
      · rw [if_neg hyes] at HSN
        have HA : Hid (SumsAt (wr.alloc (.cells #[.int .i64 yd, .slice ya ny yc] 36)) (w5.heap.size + 1) t0 t1 t2 t3 ∧ Below (w5.heap.size + 1) V (wr.alloc (.cells #[.int .i64 yd, .slice ya ny yc] 36))) := ⟨hSA, hBA⟩
        clear hSA hBA hS hbV hB5w
        by_cases h1 : yd = dd
        · have h2 : (kd == 2) = false := by
            rw [beq_eq_false_iff_ne]
            exact fun h => hyes ⟨h1, h⟩
          subst h1
          clear hyes
          go_wp2
          go_roundw
          case rel => exact ⟨k + 1, t0, t1, t2, t3, by omega, by go_num, HSN, HA.out.1, by simp; omega, HA.out.2⟩
          case measure => simp [intOf]; omega
        · have h2 : (yd == dd) = false := by simpa using h1
          clear hyes h1
          go_wp2
          go_roundw
          case rel => exact ⟨k + 1, t0, t1, t2, t3, by omega, by go_num, HSN, HA.out.1, by simp; omega, HA.out.2⟩
          case measure => simp [intOf]; omega
    · have hkn : k = nr := by omega
      have HE : Hid (q0 = t0 ∧ q1 = t1 ∧ q2 = t2 ∧ q3 = t3) := by
        have e1 := hst.out
        have hD : DD.length = nr := by rw [← HP5.out.2.2.1, List.length_map]; exact HP5.out.2.1.symm
        rw [List.take_of_length_le (by omega), HST.out] at e1
        simp only [Prod.mk.injEq] at e1
        exact e1
      obtain ⟨rfl, rfl, rfl, rfl⟩ := HE.out
      have hyw := HV.out.2.1.below hbV (by omega)
      have x1 := hyw.cell 1
      have x2 := hyw.cell 2
      have x3 := hyw.cell 3
      have x4 := hyw.cell 4
      simp at x1 x2 x3 x4
      have hBf : Below w.heap.size w wr := HV.out.2.2.2.2.trans ((HV.out.2.2.2.1.trans (hbV.mono (by omega))).mono hs5)
      obtain ⟨⟨m0, m1, m2, m3⟩, _⟩ := hS
      clear hst hyw hbV HST HE
      go_wp2
      go_ret
      exact ⟨ret_bool (by simp), hBf⟩

end Go.Proofs.Ytbdkkajmafjfbac
