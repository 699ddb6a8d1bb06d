/- LocksOne, walked: called at whatever messages and key it answers true and leaves all older memory as it was. -/
import Derived.Test.YtcklpbmeelalcacHear3
import Derived.Test.YtcklpbmeelalcacWrongM
import Derived.Test.YtcklpbmeelalcacLockA
namespace Go.Proofs.Ytcklpbmeelalcac
open Go.RowKit
attribute [local go_sem ↓] Go.wp_at_zero Go.wp_at_succ

theorem cntL_take_le (l : List P3) (q : Nat) (k : Int) : cntL (l.take q) k ≤ cntL l k := List.Sublist.length_le (List.Sublist.filter _ (List.take_sublist q l))
theorem flatMap_take_sub : ∀ (D : List D2) (j : Nat), List.Sublist ((D.take j).flatMap (·.2)) (D.flatMap (·.2))
  | [], j => by simp
  | x :: t, 0 => by simp
  | x :: t, j + 1 => by
    rw [List.take_succ_cons, List.flatMap_cons, List.flatMap_cons]
    exact List.Sublist.append (List.Sublist.refl _) (flatMap_take_sub t j)
theorem cntB_take_le (D : List D2) (j : Nat) (k : Int) : cntB (D.take j) k ≤ cntB D k := List.Sublist.length_le (List.Sublist.filter _ (flatMap_take_sub D j))
theorem cntB_part {D : List D2} {j : Nat} (h : j < D.length) (q : Nat) (k : Int) : cntB (D.take j) k + cntL (D[j].2.take q) k ≤ cntB D k := by
  have h1 := cntB_take_le D (j + 1) k
  rw [take_snoc h, cntB_snoc] at h1
  have h2 := cntL_take_le D[j].2 q k
  omega
theorem cntL_take {l : List P3} {q : Nat} (h : q < l.length) (k : Int) : cntL (l.take (q + 1)) k = cntL (l.take q) k + if l[q].2.1 = k then 1 else 0 := by rw [take_snoc h, cntL_snoc]

/-- Behind messages: block N holds a house that heard them. -/
def OneAt (N : Nat) (w0 w' : World) (k : Nat) : Prop :=
  ∃ (L : List R3) (la : Option Addr) (nl lc : Nat) (Y : List XL) (ra : Option Addr) (nr rc : Nat) (XR : List XD) (da : Option Addr) (nd dc : Nat),
    Blk w' N #[.slice la nl lc, .int .i64 (houseB L).1.1, .int .i64 (houseB L).1.2.1, .int .i64 (houseB L).1.2.2.1, .int .i64 (houseB L).1.2.2.2, .slice ra nr rc, .slice da nd dc] 32 ∧
    HouseF (fun b => b = N) w' la nl Y ra nr XR da nd L (houseB L) ∧ Good L ∧ L.length ≤ k ∧ Below w0.heap.size w0 w'

set_option maxRecDepth 20000 in
set_option maxHeartbeats 4000000 in
theorem locksOne_any (a : Option Addr) (X : List XM) (cap n : Nat) (key : Int) (w : World) (hn : n = X.length) (hsz : n * 48 ≤ 140737488355328) (hm : ∀ x ∈ X, x.2.2.2.2.length ≤ 9223372036854775807) (hrow : RowAt 4 encM w a X) (hp : ∀ x ∈ X, PartsAt w x.2.2.2.1.1 x.2.2.2.2) :
    Calls Try.prog 6 #[.slice a n cap, .int .i64 key] w fun e w' => e = .returned (.bool true) ∧ Below w.heap.size w w' := by
  have HX : Hid (n = X.length ∧ (∀ x ∈ X, x.2.2.2.2.length ≤ 9223372036854775807) ∧ RowAt 4 encM w a X ∧ (∀ x ∈ X, PartsAt w x.2.2.2.1.1 x.2.2.2.2)) := ⟨hn, hm, hrow, hp⟩
  clear hn hm hrow hp
  go_enter Try.func6, Try.ntmps6
  go_wp2_with fail
  refine (aliveK_any w).mono ?_
  rintro e w0 ⟨rfl, hb0⟩
  have hb1 := below1 w0 (.cells #[.slice none 0 0, .int .i64 0, .int .i64 0, .int .i64 0, .int .i64 0, .slice none 0 0, .slice none 0 0] 32)
  have hz1 : Blk (w0.alloc (.cells #[.slice none 0 0, .int .i64 0, .int .i64 0, .int .i64 0, .int .i64 0, .slice none 0 0, .slice none 0 0] 32)) w0.heap.size #[.slice none 0 0, .int .i64 0, .int .i64 0, .int .i64 0, .int .i64 0, .slice none 0 0, .slice none 0 0] 32 := Blk.new _ _ _
  have hO : OneAt w0.heap.size w0 (w0.alloc (.cells #[.slice none 0 0, .int .i64 0, .int .i64 0, .int .i64 0, .int .i64 0, .slice none 0 0, .slice none 0 0] 32)) 0 := by
    obtain ⟨la, nl, lc, Y, ra, nr, rc, XR, da, nd, dc, hv, hF⟩ := houseV_nil (fun b => b = w0.heap.size) (w0.alloc (.cells #[.slice none 0 0, .int .i64 0, .int .i64 0, .int .i64 0, .int .i64 0, .slice none 0 0, .slice none 0 0] 32))
    injection hv with hv
    injection hv with hv
    simp only [List.cons.injEq] at hv
    obtain ⟨e0, -, -, -, -, e5, e6, -⟩ := hv
    refine ⟨[], la, nl, lc, Y, ra, nr, rc, XR, da, nd, dc, ?_, hF, good_nil, Nat.le_refl _, hb1⟩
    rw [← e0, ← e5, ← e6]
    exact hz1
  clear hz1
  go_wp2_with fail
  generalize w0.alloc (.cells #[.slice none 0 0, .int .i64 0, .int .i64 0, .int .i64 0, .int .i64 0, .slice none 0 0, .slice none 0 0] 32) = W at *
  have HB : Hid (Below w.heap.size w w0 ∧ w.heap.size ≤ w0.heap.size) := ⟨hb0, hb0.size⟩
  clear hb0 hb1
  go_loopw [17] (fun i w' => ∃ k : Nat, k ≤ n ∧ i = .int .i64 k ∧ Hid (OneAt w0.heap.size w0 w' k)) (fun i _ => n - (intOf i).toNat)
  case atStart => exact ⟨0, Nat.zero_le _, rfl, hO⟩
  case round =>
    clear hO
    obtain ⟨k, hk, rfl, hO⟩ := hrel
    obtain ⟨L, la, nl, lc, Y, ra, nr, rc, XR, da, nd, dc, hh, hF, hG, hLk, hbw⟩ := hO.out
    clear hO
    have hBr : Below w.heap.size w wr := HB.out.1.trans (hbw.mono HB.out.2)
    by_cases hlt : k < n
    · have hkX : k < X.length := by have := HX.out.1; omega
      have hpk := HX.out.2.2.2 _ (List.getElem_mem hkX)
      have hlk := HX.out.2.1 _ (List.getElem_mem hkX)
      rcases HX.out.2.2.1.below hBr with h0 | ⟨g, o, rfl, hg, hc⟩
      · rw [h0] at hkX; simp at hkX
      have c0 := hc k hkX 0 _ rfl
      have c1 := hc k hkX 1 _ rfl
      have c2 := hc k hkX 2 _ rfl
      have c3 := hc k hkX 3 _ rfl
      clear hc
      generalize X[k] = x at *
      obtain ⟨kd, dd, hs, ⟨ax, cx⟩, l⟩ := x
      simp only [Nat.add_zero] at c0 c1 c2 c3 hpk hlk
      generalize hll : l.length = nx at *
      have HLL : Hid (l.length = nx ∧ PartsAt w ax l) := ⟨hll, hpk⟩
      clear hll hpk
      have hbm := below1 wr (.cells #[.int .i64 kd, .int .i64 dd, .int .i64 hs, .slice ax nx cx] 48)
      have hmm : Blk (wr.alloc (.cells #[.int .i64 kd, .int .i64 dd, .int .i64 hs, .slice ax nx cx] 48)) wr.heap.size #[.int .i64 kd, .int .i64 dd, .int .i64 hs, .slice ax nx cx] 48 := Blk.new _ _ _
      have hh2 := hh.below hbm hh.lt
      have hF2 := hF.below hbm
      have hbw2 := hbw.trans (hbm.mono hbw.size)
      clear hh hF hbw
      go_wp2_with fail
      clear c0 c1 c2 c3
      generalize wr.alloc (.cells #[.int .i64 kd, .int .i64 dd, .int .i64 hs, .slice ax nx cx] 48) = V at *
      have hB2 : Below w.heap.size w V := hBr.trans (hbm.mono hBr.size)
      refine (refWrong_any kd dd hs ax l cx nx V HLL.out.1.symm (by have := HLL.out.1; omega) (HLL.out.2.below hB2)).mono ?_
      rintro e w3 ⟨rfl, hb3⟩
      have hh3 := hh2.below hb3 hh2.lt
      have hF3 := hF2.below hb3
      have hmm3 := hmm.below hb3 hmm.lt
      have hbw3 := hbw2.trans (hb3.mono hbw2.size)
      have hB3 : Below w.heap.size w w3 := hB2.trans (hb3.mono hB2.size)
      clear hb3 hbw2 hF2 hh2 hmm hbm hB2
      have r0 := hmm3.cell 0
      have r1 := hmm3.cell 1
      have r2 := hmm3.cell 2
      have r3 := hmm3.cell 3
      have hrl := hmm3.lt
      simp at r0 r1 r2 r3
      generalize hwm : wrongMB kd dd hs l = wm at *
      by_cases hw0 : wm = 0
      · subst hw0
        by_cases hs0 : hs = 0
        · subst hs0
          have HGd : Hid (Good (hearL L kd dd l)) := hG.hear hwm
          have hok : OkP l := by
            obtain ⟨_, _, _, _, h5, h6⟩ := wrongMB_ok hwm
            by_cases h1 : 1 < kd
            · rw [h5 h1]; exact okP_nil
            · exact okP_wrong (h6 (by omega)).1
          have hpR : PartsR (fun b => b = w0.heap.size) w3 ax l := (HLL.out.2.outR (fun b hb => by have := HB.out.2; omega)).below hB3
          have hC : ∀ r, hearR (houseB L) kd dd l = some r → CalcL (L ++ [r]) := fun r hr => by
            have h1 := HGd.out
            rw [hearL_some hr] at h1
            exact ⟨h1.ok, h1.within, by rw [List.length_append, List.length_singleton]; omega⟩
          have hwi := hG.within L.length (Nat.le_refl _)
          rw [List.take_length] at hwi
          have HH := refHear_any (fun b => b = w0.heap.size) _ L 0 kd dd 0 ax nx cx l w3 (fun b hb => by subst hb; exact hh3.lt) ⟨la, nl, lc, Y, ra, nr, rc, XR, da, nd, dc, rfl, hF3⟩ HLL.out.1.symm hpR hok hG.ok (by omega) hwi hC
          have HLn : Hid ((hearL L kd dd l).length ≤ k + 1) := Nat.le_trans (hearL_len L kd dd l) (by omega)
          clear hwm hok hpR hC hwi hG hF3
          obtain ⟨⟨q0, q1, q2, q3, q4, q5, q6⟩, -⟩ := zcells hh3
          have hql := hh3.lt
          generalize houseB L = hx at *
          obtain ⟨⟨s0, s1, s2, s3⟩, D, dn⟩ := hx
          simp only at q0 q1 q2 q3 q4 q5 q6 HH hh3
          go_wp2_with fail
          refine HH.mono ?_
          rintro e w4 ⟨v4, sv, rfl, ⟨la2, nl2, lc2, Y2, ra2, nr2, rc2, XR2, da2, nd2, dc2, rfl, hF4⟩, -, hb4⟩
          have hh4 := hh3.below hb4 hh3.lt
          have hbw4 := hbw3.trans (hb4.mono hbw3.size)
          clear q0 q1 q2 q3 q4 q5 q6 r0 r1 r2 r3 hrl hql hh3 hbw3 hb4 HH hmm3 hB3
          generalize hL2 : hearL L kd dd l = L2 at *
          generalize hhx : houseB L2 = hx at *
          have HHX : Hid (houseB L2 = hx) := hhx
          clear hhx
          obtain ⟨⟨t0, t1, t2, t3⟩, D2, dn2⟩ := hx
          simp only at hF4 ⊢
          obtain ⟨h1, h2⟩ := fill7K hh4 (.slice la2 nl2 lc2) (.int .i64 t0) (.int .i64 t1) (.int .i64 t2) (.int .i64 t3) (.slice ra2 nr2 rc2) (.slice da2 nd2 dc2)
          have HF : Hid (OneAt w0.heap.size w0 (((((((w4.setCell ⟨w0.heap.size, 0, none⟩ (.slice la2 nl2 lc2)).setCell ⟨w0.heap.size, 1, none⟩ (.int .i64 t0)).setCell ⟨w0.heap.size, 2, none⟩ (.int .i64 t1)).setCell ⟨w0.heap.size, 3, none⟩ (.int .i64 t2)).setCell ⟨w0.heap.size, 4, none⟩ (.int .i64 t3)).setCell ⟨w0.heap.size, 5, none⟩ (.slice ra2 nr2 rc2)).setCell ⟨w0.heap.size, 6, none⟩ (.slice da2 nd2 dc2)) (k + 1)) := by
            refine ⟨L2, la2, nl2, lc2, Y2, ra2, nr2, rc2, XR2, da2, nd2, dc2, ?_, ?_, HGd.out, HLn.out, hbw4.trans (h2.below hbw4.size (fun b hb => by omega))⟩
            · rw [HHX.out]; exact h1
            · rw [HHX.out]; exact hF4.keep h2
          obtain ⟨⟨z0, z1, z2, z3, z4, z5, z6⟩, ⟨y0, y1, y2, y3, y4, y5, y6⟩⟩ := zcells hh4
          have hql := hh4.lt
          clear h1 h2 hF4 hbw4 hh4
          go_wp2
          go_roundw
          case rel => exact ⟨k + 1, by omega, by go_num, HF⟩
          case measure => simp [intOf]; omega
        · have hs' : (hs != 0) = true := by simpa using hs0
          clear hs0 hwm
          go_wp2
          go_ret
          exact ⟨rfl, hB3⟩
      · have hw' : (wm != 0) = true := by simpa using hw0
        clear hw0 hwm
        go_wp2
        go_ret
        exact ⟨rfl, hB3⟩
    · have HL := hG.lone
      have hinv := houseB_inv hG.ok
      have hcnt := lone_cnt HL key
      have HRd : Hid (RdyAt wr ra nr XR (houseB L).2.1) := hF.rdyAt hinv (by omega)
      have hnr : nr ≤ 9223372036854775807 := by have h1 := HRd.out.n; have h2 := HRd.out.few; omega
      generalize houseB L = hx at *
      obtain ⟨⟨s0, s1, s2, s3⟩, D, dn⟩ := hx
      simp only at hcnt HRd hh
      have HL2 : Hid (Lone ((s0, s1, s2, s3), D, dn) ∧ cntB D key = if atK D key = true then 1 else 0) := ⟨HL, hcnt⟩
      have hle : cntB D key ≤ 1 := by rw [hcnt]; split <;> omega
      have HLE : Hid (cntB D key ≤ 1) := hle
      clear hcnt HL hG hF hinv hLk hbw hle
      obtain ⟨⟨q0, q1, q2, q3, q4, q5, q6⟩, -⟩ := zcells hh
      have hql := hh.lt
      go_wp2
      clear q0 q1 q2 q3 q4 q5 q6
      generalize wr = V at *
      go_loopw [8, 39] (fun c i w' => ∃ j : Nat, j ≤ nr ∧ i = .int .i64 j ∧ Hid (c = .int .i64 (cntB (D.take j) key)) ∧ Below V.heap.size V w') (fun _ i _ => nr - (intOf i).toNat)
      case atStart => exact ⟨0, Nat.zero_le _, rfl, rfl, Below.refl _ _⟩
      case round =>
        obtain ⟨j, hj, rfl, hc, hbv⟩ := hrel
        have hBv : Below w.heap.size w wr := hBr.trans (hbv.mono hBr.size)
        have hhv := hh.below hbv hh.lt
        by_cases hlt2 : j < nr
        · have hjX : j < XR.length := by have := HRd.out.n; omega
          have hjD : j < D.length := by rw [← HRd.out.says, List.length_map]; exact hjX
          have hDj : D[j] = (XR[j].1, XR[j].2.2) := by
            have : D = XR.map stripD := HRd.out.says.symm
            subst this
            rw [List.getElem_map]
            rfl
          have hmem := List.getElem_mem hjD
          have hpart := fun q => cntB_part hjD q key
          have hsn : cntB (D.take (j + 1)) key = cntB (D.take j) key + cntL D[j].2 key := by rw [take_snoc hjD, cntB_snoc]
          have hsm := HRd.out.small _ (List.getElem_mem hjX)
          obtain ⟨g, o, rfl, hg, d0, d1, hq⟩ := (HRd.out.lies.below hbv).get hjX
          rw [hDj] at hmem hpart hsn
          generalize XR[j] = y at *
          obtain ⟨yd, ⟨ya, yc⟩, yl⟩ := y
          simp only at d0 d1 hmem hpart hsn hsm hq
          have hcv := hc.out
          subst hcv
          generalize hb0 : cntB (D.take j) key = c0 at *
          generalize hyl : yl.length = ny at *
          have HY : Hid (yl.length = ny ∧ (yd, yl) ∈ D ∧ (∀ q, c0 + cntL (yl.take q) key ≤ cntB D key) ∧ cntB (D.take (j + 1)) key = c0 + cntL yl key) := ⟨hyl, hmem, hpart, hsn⟩
          clear hyl hmem hpart hsn hDj hjD hjX hb0 hc
          have hbA := below1 wr (.cells #[.int .i64 yd, .slice ya ny yc] 36)
          have hrA : Blk (wr.alloc (.cells #[.int .i64 yd, .slice ya ny yc] 36)) wr.heap.size #[.int .i64 yd, .slice ya ny yc] 36 := Blk.new _ _ _
          have hhA := hhv.below hbA hhv.lt
          have hqA := hq.below hbA
          have hbvA := hbv.trans (hbA.mono hbv.size)
          have hlA : wr.heap.size < (wr.alloc (.cells #[.int .i64 yd, .slice ya ny yc] 36)).heap.size := by simp
          clear hbA hhv hq hbv hBv
          go_wp2
          clear d0 d1
          generalize hwo : wr = wo at *
          clear hwo
          generalize wo.alloc (.cells #[.int .i64 yd, .slice ya ny yc] 36) = U at *
          go_loopw [8, 46] (fun c i w' => ∃ q : Nat, q ≤ ny ∧ i = .int .i64 q ∧ Hid (c = .int .i64 ((c0 + cntL (yl.take q) key : Nat) : Int)) ∧ Below U.heap.size U w') (fun _ i _ => ny - (intOf i).toNat)
          case atStart => exact ⟨0, Nat.zero_le _, rfl, by show _ = _; simp [cntL], Below.refl _ _⟩
          case round =>
            obtain ⟨q, hq, rfl, hc, hbu⟩ := hrel
            have hhu := hhA.below hbu hhA.lt
            have hru := hrA.below hbu hrA.lt
            have hbvu := hbvA.trans (hbu.mono hbvA.size)
            have hcv := hc.out
            subst hcv
            have hcle : c0 + cntL (yl.take q) key ≤ 1 := Nat.le_trans (HY.out.2.2.1 q) HLE.out
            by_cases hlt3 : q < ny
            · have hql2 : q < yl.length := by have := HY.out.1; omega
              rcases hqA.below hbu with h0 | ⟨g2, o2, rfl, hg2, hc2⟩
              · rw [h0] at hql2; simp at hql2
              obtain ⟨e0, e1, e2⟩ := hc2 q hql2
              have hmq := List.getElem_mem hql2
              have HSQ : Hid (cntL (yl.take (q + 1)) key = cntL (yl.take q) key + (if yl[q].2.1 = key then 1 else 0)) := cntL_take hql2 key
              clear hc2
              generalize yl[q] = p at *
              obtain ⟨p0, p1, p2⟩ := p
              simp only at e0 e1 e2 HSQ
              have hle1 := HY.out.2.2.1 (q + 1)
              rw [HSQ.out] at hle1
              have HLE1 : Hid (c0 + (cntL (yl.take q) key + (if p1 = key then 1 else 0)) ≤ cntB D key) := hle1
              clear hle1
              generalize hcc : c0 + cntL (yl.take q) key = c1 at *
              have hbB := below1 wr (.cells #[.int .i64 p0, .int .i64 p1, .int .i64 p2] 38)
              have hbuB := hbu.trans (hbB.mono hbu.size)
              by_cases hpk : p1 = key
              · have HW : Hid (whoB D key = yd) := lone_who HL2.out.1 HY.out.2.1 hmq hpk
                have hc10 : c1 = 0 := by have h1 := HLE1.out; rw [if_pos hpk] at h1; have h2 := HLE.out; omega
                have HF : Hid (((c1 : Int) + 1) = ((c0 + cntL (yl.take (q + 1)) key : Nat) : Int)) := by
                  show _ = _
                  rw [HSQ.out, if_pos hpk]
                  omega
                have hpk' : (p1 == key) = true := by simpa using hpk
                have hhB := hhu.below hbB hhu.lt
                have hrB := hru.below hbB hru.lt
                have hbvB := hbvu.trans (hbB.mono hbvu.size)
                clear HSQ HLE1 hpk hmq hcle hcc
                subst hc10
                go_upto_region 20 with fail
                clear e0 e1 e2
                generalize wr.alloc (.cells #[.int .i64 p0, .int .i64 p1, .int .i64 p2] 38) = B at *
                have HWH : Hid (∀ w', Below B.heap.size B w' → Calls Try.prog 15 #[.agg #[.slice la nl lc, .int .i64 s0, .int .i64 s1, .int .i64 s2, .int .i64 s3, .slice (some ⟨g, o, none⟩) nr rc, .slice da nd dc], .int .i64 key] w' fun e w'' => e = .returned (.int .i64 yd) ∧ Below w'.heap.size w' w'') := fun w' hb => by
                  rw [← HW.out]
                  exact whoR_any la (some ⟨g, o, none⟩) da nl lc nr rc nd dc s0 s1 s2 s3 key XR D w' ((HRd.out.below hbvB).below hb)
                have HK : Hid (∀ w', Below B.heap.size B w' → (w'.cell? ⟨w0.heap.size, 0, none⟩ = some (.slice la nl lc) ∧ w'.cell? ⟨w0.heap.size, 1, none⟩ = some (.int .i64 s0) ∧ w'.cell? ⟨w0.heap.size, 2, none⟩ = some (.int .i64 s1) ∧ w'.cell? ⟨w0.heap.size, 3, none⟩ = some (.int .i64 s2) ∧ w'.cell? ⟨w0.heap.size, 4, none⟩ = some (.int .i64 s3) ∧ w'.cell? ⟨w0.heap.size, 5, none⟩ = some (.slice (some ⟨g, o, none⟩) nr rc) ∧ w'.cell? ⟨w0.heap.size, 6, none⟩ = some (.slice da nd dc) ∧ w'.cell? ⟨wo.heap.size, 0, none⟩ = some (.int .i64 yd))) := fun w' hb => by
                  have h := hhB.below hb hhB.lt
                  exact ⟨h.cell 0, h.cell 1, h.cell 2, h.cell 3, h.cell 4, h.cell 5, h.cell 6, (hrB.below hb hrB.lt).cell 0⟩
                have hX0 : Below B.heap.size B B.drew := (Below.refl _ _).drew
                have HBU : Hid (Below U.heap.size U B) := hbuB
                clear hhB hrB hbvB hbuB hbB hhu hru hbu hbvu
                go_region_held3 (fun w' => (w'.cell? ⟨w0.heap.size, 0, none⟩ = some (.slice la nl lc) ∧ w'.cell? ⟨w0.heap.size, 1, none⟩ = some (.int .i64 s0) ∧ w'.cell? ⟨w0.heap.size, 2, none⟩ = some (.int .i64 s1) ∧ w'.cell? ⟨w0.heap.size, 3, none⟩ = some (.int .i64 s2) ∧ w'.cell? ⟨w0.heap.size, 4, none⟩ = some (.int .i64 s3) ∧ w'.cell? ⟨w0.heap.size, 5, none⟩ = some (.slice (some ⟨g, o, none⟩) nr rc) ∧ w'.cell? ⟨w0.heap.size, 6, none⟩ = some (.slice da nd dc) ∧ w'.cell? ⟨wo.heap.size, 0, none⟩ = some (.int .i64 yd))) (
                  first
                  | exact HK.out _ hWo
                  | exact HK.out _ hX0
                  | exact HK.out _ (Below.refl _ _)) (
                  first
                  | (go_at_call 15; refine (HWH.out _ hX0).mono ?_; rintro e wW ⟨rfl, hbW⟩; have hWo : Below B.heap.size B wW := hX0.trans (hbW.mono hX0.size); clear hbW))
                all_goals
                  have HBW : Hid (Below U.heap.size U wW) := HBU.out.trans (hWo.mono HBU.out.size)
                  go_wp2
                  go_roundw
                  case rel => exact ⟨q + 1, by omega, by go_num, by show _ = _; rw [← HF.out]; rfl, HBW.out⟩
                  case measure => simp [intOf]; omega
              · have HF : Hid ((c1 : Int) = ((c0 + cntL (yl.take (q + 1)) key : Nat) : Int)) := by
                  show _ = _
                  rw [HSQ.out, if_neg hpk]
                  omega
                have hpk' : (p1 == key) = false := by simpa using hpk
                clear HSQ HLE1 hpk hmq
                go_wp2
                go_roundw
                case rel => exact ⟨q + 1, by omega, by go_num, by show _ = _; rw [← HF.out], hbuB⟩
                case measure => simp [intOf]; omega
            · have HF : Hid (((c0 + cntL (yl.take q) key : Nat) : Int) = ((cntB (D.take (j + 1)) key : Nat) : Int)) := by
                show _ = _
                rw [List.take_of_length_le (by have := HY.out.1; omega), HY.out.2.2.2]
              generalize c0 + cntL (yl.take q) key = c1 at *
              clear hhu hru
              go_wp2
              go_roundw
              case rel => exact ⟨j + 1, by omega, by go_num, by show _ = _; rw [← HF.out], hbvu⟩
              case measure => simp [intOf]; omega
        · have hfull : D.take j = D := List.take_of_length_le (by
            have h1 := HRd.out.n
            have h2 := congrArg List.length HRd.out.says
            simp at h2
            omega)
          rw [hfull] at hc
          have hcv := hc.out
          subst hcv
          have hle := HLE.out
          have hcn := HL2.out.2
          have HRv : Hid (RdyAt wr ra nr XR D) := HRd.out.below hbv
          have hbP := below1 wr (.cells #[.int .i64 0, .int .i64 key, .int .i64 0] 38)
          have hBP : Below w.heap.size w (wr.alloc (.cells #[.int .i64 0, .int .i64 key, .int .i64 0] 38)) := hBv.trans (hbP.mono hBv.size)
          have HFR : Hid (Calls Try.prog 16 #[.agg #[.slice la nl lc, .int .i64 s0, .int .i64 s1, .int .i64 s2, .int .i64 s3, .slice ra nr rc, .slice da nd dc], .slice (some ⟨wr.heap.size, 0, none⟩) 1 1] (wr.alloc (.cells #[.int .i64 0, .int .i64 key, .int .i64 0] 38)) fun e w' => e = .returned (.bool (!atK D key)) ∧ Below w.heap.size w w') := by
            have h1 := freeR_any la ra da (some ⟨wr.heap.size, 0, none⟩) nl lc nr rc nd dc 1 1 s0 s1 s2 s3 XR D [(0, key, 0)] (wr.alloc (.cells #[.int .i64 0, .int .i64 key, .int .i64 0] 38)) (HRv.out.below hbP) rfl (by simp) (partsOne (Blk.new wr _ _))
            have e1 : freeB D [(0, key, 0)] = !atK D key := by simp [freeB]
            rw [e1] at h1
            refine Calls.mono h1 ?_
            rintro e w' ⟨rfl, hb⟩
            exact ⟨rfl, hBP.trans (hb.mono hBP.size)⟩
          obtain ⟨⟨q0, q1, q2, q3, q4, q5, q6⟩, -⟩ := zcells hhv
          have hqv := hhv.lt
          generalize cntB D key = c1 at *
          cases hat : atK D key
          all_goals
            rw [hat] at hcn HFR
            simp at hcn
            subst hcn
            clear hc hfull hat hle hbP hBP hhv HRv
            go_wp2_with fail
            refine HFR.out.mono ?_
            rintro e wF ⟨rfl, hbF⟩
            go_wp2
            go_ret
            exact ⟨rfl, hbF⟩

end Go.Proofs.Ytcklpbmeelalcac
