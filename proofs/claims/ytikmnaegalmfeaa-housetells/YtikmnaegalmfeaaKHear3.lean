/- What the document's Hear of a house does. -/
import Derived.Test.YtikmnaegalmfeaaKHearA
import Derived.Test.YtikmnaegalmfeaaKJ35
namespace Go.Proofs.Ytikmnaegalmfeaa
open Go.RowKit
attribute [local go_sem ↓] Go.wp_at_zero Go.wp_at_succ

set_option maxRecDepth 20000 in
set_option maxHeartbeats 4000000 in
theorem refHear1_any (R : Nat → Prop) (v : Value) (L : List R3) (me d hs : Int) (ma : Option Addr) (nm cm : Nat) (l : List P3) (w : World) (hR : ∀ b, R b → b < w.heap.size) (hv : HouseV R w v L (houseB L)) (hnm : nm = l.length) (hq : PartsR R w ma l) (hok : OkP l) (hL : OkL L) (hLl : L.length * 40 ≤ 140737488355328) (hwi : Within 2199023255552 (houseB L).1) (hC : ∀ r, hearR (houseB L) 1 d l = some r → CalcL (L ++ [r])) :
    Calls Try.prog 10 #[v, .int .i64 me, .agg #[.int .i64 1, .int .i64 d, .int .i64 hs, .slice ma nm cm]] w fun e w' => ∃ v' sv, e = .returned (.tuple #[v', sv]) ∧ HouseV R w' v' (hearL L 1 d l) (houseB (hearL L 1 d l)) ∧ MsgsV R w' sv (hearM L me 1 d l) ∧ Below w.heap.size w w' := by
  obtain ⟨R1, g1, g2, g3, g4, -⟩ := more_R R hR (M := w.heap.size) (Nat.le_refl _)
  obtain ⟨R', f1, f2, f3, f4, -⟩ := more_R R1 g4 (M := w.heap.size + 1 + 1) (by omega)
  have hRR : ∀ b, R' b → R b ∨ w.heap.size ≤ b := fun b hb => by
    rcases f3 b hb with h | h
    · exact g3 b h
    · right; omega
  have hinv := houseB_inv hL
  obtain ⟨la, nl, lc, Y, ra, nr, rc, XR, da, nd, dc, rfl, hF⟩ := hv
  generalize hhb : houseB L = hx at *
  obtain ⟨⟨s0, s1, s2, s3⟩, D, dn⟩ := hx
  have HN : Hid (nm = l.length ∧ PartsR R' w ma l ∧ OkP l ∧ HInv L.length ((s0, s1, s2, s3), D, dn) ∧ Within 2199023255552 (s0, s1, s2, s3) ∧ (∀ r, hearR ((s0, s1, s2, s3), D, dn) 1 d l = some r → CalcL (L ++ [r])) ∧ houseB L = ((s0, s1, s2, s3), D, dn)) := ⟨hnm, hq.wide hRR, hok, hinv, hwi, hC, hhb⟩
  have HRR : Hid ((∀ b, R b → R' b) ∧ R' w.heap.size ∧ R' (w.heap.size + 1 + 1) ∧ (∀ b, R' b → b < w.heap.size + 1 + 1 + 1) ∧ (∀ b, R b → b < w.heap.size)) := ⟨fun b hb => f1 b (g1 b hb), f1 _ g2, f2, f4, hR⟩
  have hF' := hF.wide hRR
  have hdl : dn.length ≤ 9223372036854775807 := by have := hinv.done; simp at this; omega
  have hbX := below3 w (.cells #[.slice la nl lc, .int .i64 s0, .int .i64 s1, .int .i64 s2, .int .i64 s3, .slice ra nr rc, .slice da nd dc] 31) (.cells #[.int .i64 1, .int .i64 d, .int .i64 hs, .slice ma nm cm] 25) (.cells #[.slice none 0 0, .int .i64 0, .int .i64 0, .int .i64 0, .int .i64 0, .slice none 0 0, .slice none 0 0] 31)
  have hM : HearMid R' w (((w.alloc (.cells #[.slice la nl lc, .int .i64 s0, .int .i64 s1, .int .i64 s2, .int .i64 s3, .slice ra nr rc, .slice da nd dc] 31)).alloc (.cells #[.int .i64 1, .int .i64 d, .int .i64 hs, .slice ma nm cm] 25)).alloc (.cells #[.slice none 0 0, .int .i64 0, .int .i64 0, .int .i64 0, .int .i64 0, .slice none 0 0, .slice none 0 0] 31)) w.heap.size 1 d hs (.slice ma nm cm) la nl lc Y ra nr rc XR da nd dc L s0 s1 s2 s3 D dn := ⟨((Blk.new w _ _).alloc _).alloc _, Blk.alloc (heap2 _ _ _) _, heap3a _ _ _ _ rfl, hF'.below hbX, hbX⟩
  clear hnm hq hok hinv hwi hC hF hF' g1 g2 g3 g4 f1 f2 f3 f4 hRR hhb hbX hL hR
  go_enter Try.func10, Try.ntmps10
  go_upto_if 13 with fail
  generalize (((w.alloc (.cells #[.slice la nl lc, .int .i64 s0, .int .i64 s1, .int .i64 s2, .int .i64 s3, .slice ra nr rc, .slice da nd dc] 31)).alloc (.cells #[.int .i64 1, .int .i64 d, .int .i64 hs, .slice ma nm cm] 25)).alloc (.cells #[.slice none 0 0, .int .i64 0, .int .i64 0, .int .i64 0, .int .i64 0, .slice none 0 0, .slice none 0 0] 31)) = W at *
  have HM : Hid (HearMid R' w W w.heap.size 1 d hs (.slice ma nm cm) la nl lc Y ra nr rc XR da nd dc L s0 s1 s2 s3 D dn) := hM
  clear hM
  obtain ⟨⟨q0, q1, q2, q3, q4, q5, q6⟩, ⟨r0, r1, r3⟩, hlt⟩ := HM.out.cells
  have hlt0 := HM.out.hb.lt
  have hlt1 := HM.out.mb.lt
  go_wp2_with fail
  refine (refVote_any la ra da ma nl lc nr rc nd dc nm cm s0 s1 s2 s3 d XR D dn l W (HM.out.F.rdyAt HN.out.2.2.2.1 (by omega)) HM.out.F.dn hdl HM.out.F.done HN.out.1 HN.out.2.2.1 (HN.out.2.1.below HM.out.bel).1 HN.out.2.2.2.2.1).mono ?_
  rintro e w1 ⟨rfl, hb1⟩
  have HM1 : Hid (HearMid R' w w1 w.heap.size 1 d hs (.slice ma nm cm) la nl lc Y ra nr rc XR da nd dc L s0 s1 s2 s3 D dn) := HM.out.below hb1
  clear q0 q1 q2 q3 q4 q5 q6 r0 r1 r3 hlt hlt0 hlt1 HM hb1
  generalize hvt : voteB ((s0, s1, s2, s3), D, dn) d l = vt at *
  have HVT : Hid (voteB ((s0, s1, s2, s3), D, dn) d l = vt) := hvt
  clear hvt
  by_cases h10 : vt = 10
  · subst h10
    have HG : Hid (hearL L 1 d l = L ∧ houseB L = ((s0, s1, s2, s3), D, dn) ∧ hearM L me 1 d l = []) := by
      have e1 : hearR (houseB L) 1 d l = none := by
        rw [HN.out.2.2.2.2.2.2]
        unfold hearR
        rw [if_pos rfl, if_neg (by rw [HVT.out]; rintro ⟨h, -⟩; exact absurd h (by decide))]
      refine ⟨hearL_none e1, HN.out.2.2.2.2.2.2, ?_⟩
      unfold hearM hearS
      rw [if_pos rfl, HN.out.2.2.2.2.2.2, HVT.out, if_pos rfl]
      rfl
    obtain ⟨⟨q0, q1, q2, q3, q4, q5, q6⟩, ⟨r0, r1, r3⟩, hlt⟩ := HM1.out.cells
    have hlt0 := HM1.out.hb.lt
    have hlt1 := HM1.out.mb.lt
    obtain ⟨⟨z0, z1, z2, z3, z4, z5, z6⟩, ⟨y0, y1, y2, y3, y4, y5, y6⟩⟩ := zcells HM1.out.zb
    go_wp2_with fail
    obtain ⟨hV, hB, hZ, -⟩ := HM1.out.fin HRR.out.1 HRR.out.2.2.1 (Nat.le_refl _)
    have HF : Hid _ := And.intro hV hB
    have e0 := hZ.cell 0
    have e1 := hZ.cell 1
    have e2 := hZ.cell 2
    have e3 := hZ.cell 3
    have e4 := hZ.cell 4
    have e5 := hZ.cell 5
    have e6 := hZ.cell 6
    simp only [List.getElem?_toArray, List.getElem?_cons_zero, List.getElem?_cons_succ] at e0 e1 e2 e3 e4 e5 e6
    clear q0 q1 q2 q3 q4 q5 q6 r0 r1 r3 hlt hlt0 hlt1 z0 z1 z2 z3 z4 z5 z6 y0 y1 y2 y3 y4 y5 y6 hV hB hZ
    generalize (((((((w1.setCell ⟨w.heap.size + 1 + 1, 0, none⟩ (.slice la nl lc)).setCell ⟨w.heap.size + 1 + 1, 1, none⟩ (.int .i64 s0)).setCell ⟨w.heap.size + 1 + 1, 2, none⟩ (.int .i64 s1)).setCell ⟨w.heap.size + 1 + 1, 3, none⟩ (.int .i64 s2)).setCell ⟨w.heap.size + 1 + 1, 4, none⟩ (.int .i64 s3)).setCell ⟨w.heap.size + 1 + 1, 5, none⟩ (.slice ra nr rc)).setCell ⟨w.heap.size + 1 + 1, 6, none⟩ (.slice da nd dc)) = Z at *
    refine bodyPost_ret (v := .tuple #[.agg #[.slice la nl lc, .int .i64 s0, .int .i64 s1, .int .i64 s2, .int .i64 s3, .slice ra nr rc, .slice da nd dc], .slice none 0 0]) ?_ rfl ⟨_, _, rfl, by rw [HG.out.1, HG.out.2.1]; exact HF.out.1, by rw [HG.out.2.2]; exact MsgsV.nil _ _, HF.out.2⟩
    simp [results, Try.results10, go_sem, e0, e1, e2, e3, e4, e5, e6]
  · by_cases h0 : vt = 0
    · subst h0
      clear h10
      obtain ⟨⟨q0, q1, q2, q3, q4, q5, q6⟩, ⟨r0, r1, r3⟩, hlt⟩ := HM1.out.cells
      have hlt0 := HM1.out.hb.lt
      have hlt1 := HM1.out.mb.lt
      go_wp2_with fail
      refine (refReady_any la ra da nl lc nr rc nd dc s0 s1 s2 s3 d XR D w1 (HM1.out.F.rdyAt HN.out.2.2.2.1 (by omega))).mono ?_
      rintro e w2 ⟨rfl, hb2⟩
      have HM2 : Hid (HearMid R' w w2 w.heap.size 1 d hs (.slice ma nm cm) la nl lc Y ra nr rc XR da nd dc L s0 s1 s2 s3 D dn) := HM1.out.below hb2
      clear q0 q1 q2 q3 q4 q5 q6 r0 r1 r3 hlt hlt0 hlt1 HM1 hb2
      cases hz2 : hasD D d
      · have HRc : Hid (hearR ((s0, s1, s2, s3), D, dn) 1 d l = some (1, d, l)) := by
          show _ = _
          unfold hearR
          rw [if_pos rfl, if_pos ⟨HVT.out, hz2⟩]
        have HG0 : Hid (hearL L 1 d l = L ++ [(1, d, l)] ∧ hearM L me 1 d l = [(2, d, me, [])]) := by
          refine ⟨hearL_some (by rw [HN.out.2.2.2.2.2.2]; exact HRc.out), ?_⟩
          unfold hearM hearS
          rw [if_pos rfl, HN.out.2.2.2.2.2.2, HVT.out, if_neg (by decide), if_pos rfl]
          rfl
        clear hz2
        obtain ⟨⟨q0, q1, q2, q3, q4, q5, q6⟩, ⟨r0, r1, r3⟩, hlt⟩ := HM2.out.cells
        have hlt0 := HM2.out.hb.lt
        have hlt1 := HM2.out.mb.lt
        go_wp2_with fail
        refine (refNote_any R' la ra da nl lc nr rc nd dc s0 s1 s2 s3 Y 1 d ma nm cm l w2 (fun b hb => by have h1 := HRR.out.2.2.2.1 b hb; have h2 := HM2.out.zb.lt; omega) HM2.out.F.ln HN.out.1 (by rw [HM2.out.F.says]; exact HN.out.2.2.2.2.2.1 _ HRc.out) HM2.out.F.log HM2.out.F.parts (HN.out.2.1.below HM2.out.bel)).mono ?_
        rintro e w3 ⟨v3, rfl, hV3, hb3⟩
        have HM3 : Hid (HearMid R' w w3 w.heap.size 1 d hs (.slice ma nm cm) la nl lc Y ra nr rc XR da nd dc L s0 s1 s2 s3 D dn) := HM2.out.below hb3
        rw [HM2.out.F.says] at hV3
        clear q0 q1 q2 q3 q4 q5 q6 r0 r1 r3 hlt hlt0 hlt1 HM2 hb3
        generalize hh2 : houseB (L ++ [((1 : Int), d, l)]) = hx2 at *
        have HH2 : Hid (houseB (L ++ [((1 : Int), d, l)]) = hx2) := hh2
        clear hh2
        obtain ⟨⟨t0, t1, t2, t3⟩, D2, dn2⟩ := hx2
        obtain ⟨la2, nl2, lc2, Y2, ra2, nr2, rc2, XR2, da2, nd2, dc2, rfl, hF3⟩ := hV3
        have HM4 : Hid _ := HM3.out.put (lc2 := lc2) (rc2 := rc2) (dc2 := dc2) hF3 HRR.out.2.1 (Nat.le_refl _)
        clear hF3
        obtain ⟨⟨z0, z1, z2, z3, z4, z5, z6⟩, ⟨y0, y1, y2, y3, y4, y5, y6⟩⟩ := zcells HM3.out.hb
        have HG : Hid (hearL L 1 d l = L ++ [(1, d, l)] ∧ houseB (L ++ [((1 : Int), d, l)]) = ((t0, t1, t2, t3), D2, dn2) ∧ hearM L me 1 d l = [(2, d, me, [])]) := ⟨HG0.out.1, HH2.out, HG0.out.2⟩
        go_upto_region 20 with fail
        clear z0 z1 z2 z3 z4 z5 z6 y0 y1 y2 y3 y4 y5 y6
        generalize (((((((w3.setCell ⟨w.heap.size, 0, none⟩ (.slice la2 nl2 lc2)).setCell ⟨w.heap.size, 1, none⟩ (.int .i64 t0)).setCell ⟨w.heap.size, 2, none⟩ (.int .i64 t1)).setCell ⟨w.heap.size, 3, none⟩ (.int .i64 t2)).setCell ⟨w.heap.size, 4, none⟩ (.int .i64 t3)).setCell ⟨w.heap.size, 5, none⟩ (.slice ra2 nr2 rc2)).setCell ⟨w.heap.size, 6, none⟩ (.slice da2 nd2 dc2)) = w4 at *
        obtain ⟨⟨q0, q1, q2, q3, q4, q5, q6⟩, ⟨r0, r1, r3⟩, hlt⟩ := HM4.out.cells
        have hlt0 := HM4.out.hb.lt
        have hlt1 := HM4.out.mb.lt
        obtain ⟨⟨z0, z1, z2, z3, z4, z5, z6⟩, ⟨y0, y1, y2, y3, y4, y5, y6⟩⟩ := zcells HM4.out.zb
        go_region
        all_goals
          obtain ⟨hV, hB, hZ, hK⟩ := HM4.out.fin HRR.out.1 HRR.out.2.2.1 (Nat.le_refl _)
          have hsz : (((((((w4.setCell ⟨w.heap.size + 1 + 1, 0, none⟩ (.slice la2 nl2 lc2)).setCell ⟨w.heap.size + 1 + 1, 1, none⟩ (.int .i64 t0)).setCell ⟨w.heap.size + 1 + 1, 2, none⟩ (.int .i64 t1)).setCell ⟨w.heap.size + 1 + 1, 3, none⟩ (.int .i64 t2)).setCell ⟨w.heap.size + 1 + 1, 4, none⟩ (.int .i64 t3)).setCell ⟨w.heap.size + 1 + 1, 5, none⟩ (.slice ra2 nr2 rc2)).setCell ⟨w.heap.size + 1 + 1, 6, none⟩ (.slice da2 nd2 dc2)).heap.size = w4.heap.size := by simp
          have hbA : Below (((((((w4.setCell ⟨w.heap.size + 1 + 1, 0, none⟩ (.slice la2 nl2 lc2)).setCell ⟨w.heap.size + 1 + 1, 1, none⟩ (.int .i64 t0)).setCell ⟨w.heap.size + 1 + 1, 2, none⟩ (.int .i64 t1)).setCell ⟨w.heap.size + 1 + 1, 3, none⟩ (.int .i64 t2)).setCell ⟨w.heap.size + 1 + 1, 4, none⟩ (.int .i64 t3)).setCell ⟨w.heap.size + 1 + 1, 5, none⟩ (.slice ra2 nr2 rc2)).setCell ⟨w.heap.size + 1 + 1, 6, none⟩ (.slice da2 nd2 dc2)).heap.size (((((((w4.setCell ⟨w.heap.size + 1 + 1, 0, none⟩ (.slice la2 nl2 lc2)).setCell ⟨w.heap.size + 1 + 1, 1, none⟩ (.int .i64 t0)).setCell ⟨w.heap.size + 1 + 1, 2, none⟩ (.int .i64 t1)).setCell ⟨w.heap.size + 1 + 1, 3, none⟩ (.int .i64 t2)).setCell ⟨w.heap.size + 1 + 1, 4, none⟩ (.int .i64 t3)).setCell ⟨w.heap.size + 1 + 1, 5, none⟩ (.slice ra2 nr2 rc2)).setCell ⟨w.heap.size + 1 + 1, 6, none⟩ (.slice da2 nd2 dc2)) ((((((((w4.setCell ⟨w.heap.size + 1 + 1, 0, none⟩ (.slice la2 nl2 lc2)).setCell ⟨w.heap.size + 1 + 1, 1, none⟩ (.int .i64 t0)).setCell ⟨w.heap.size + 1 + 1, 2, none⟩ (.int .i64 t1)).setCell ⟨w.heap.size + 1 + 1, 3, none⟩ (.int .i64 t2)).setCell ⟨w.heap.size + 1 + 1, 4, none⟩ (.int .i64 t3)).setCell ⟨w.heap.size + 1 + 1, 5, none⟩ (.slice ra2 nr2 rc2)).setCell ⟨w.heap.size + 1 + 1, 6, none⟩ (.slice da2 nd2 dc2)).alloc (.cells #[.int .i64 2, .int .i64 d, .int .i64 me, .slice none 0 0] 25)).drew := (below1 _ _).drew
          have hS : MsgsV R ((((((((w4.setCell ⟨w.heap.size + 1 + 1, 0, none⟩ (.slice la2 nl2 lc2)).setCell ⟨w.heap.size + 1 + 1, 1, none⟩ (.int .i64 t0)).setCell ⟨w.heap.size + 1 + 1, 2, none⟩ (.int .i64 t1)).setCell ⟨w.heap.size + 1 + 1, 3, none⟩ (.int .i64 t2)).setCell ⟨w.heap.size + 1 + 1, 4, none⟩ (.int .i64 t3)).setCell ⟨w.heap.size + 1 + 1, 5, none⟩ (.slice ra2 nr2 rc2)).setCell ⟨w.heap.size + 1 + 1, 6, none⟩ (.slice da2 nd2 dc2)).alloc (.cells #[.int .i64 2, .int .i64 d, .int .i64 me, .slice none 0 0] 25)).drew (.slice (some ⟨w4.heap.size, 0, none⟩) 1 1) [(2, d, me, [])] := by
            rw [← hsz]
            exact MsgsV.one 2 d me (Blk.drew (Blk.new _ _ _)) (fun h => by have h1 := HRR.out.2.2.2.2 _ h; omega) 1
          have HF : Hid _ := And.intro (hV.below hbA) (And.intro (hB.trans (hbA.mono hB.size)) hS)
          have hZ' := hZ.below hbA hZ.lt
          have e0 := hZ'.cell 0
          have e1 := hZ'.cell 1
          have e2 := hZ'.cell 2
          have e3 := hZ'.cell 3
          have e4 := hZ'.cell 4
          have e5 := hZ'.cell 5
          have e6 := hZ'.cell 6
          simp only [List.getElem?_toArray, List.getElem?_cons_zero, List.getElem?_cons_succ] at e0 e1 e2 e3 e4 e5 e6
          clear q0 q1 q2 q3 q4 q5 q6 r0 r1 r3 hlt hlt0 hlt1 z0 z1 z2 z3 z4 z5 z6 y0 y1 y2 y3 y4 y5 y6 hV hB hZ hK hS hbA hZ' hsz
          generalize ((((((((w4.setCell ⟨w.heap.size + 1 + 1, 0, none⟩ (.slice la2 nl2 lc2)).setCell ⟨w.heap.size + 1 + 1, 1, none⟩ (.int .i64 t0)).setCell ⟨w.heap.size + 1 + 1, 2, none⟩ (.int .i64 t1)).setCell ⟨w.heap.size + 1 + 1, 3, none⟩ (.int .i64 t2)).setCell ⟨w.heap.size + 1 + 1, 4, none⟩ (.int .i64 t3)).setCell ⟨w.heap.size + 1 + 1, 5, none⟩ (.slice ra2 nr2 rc2)).setCell ⟨w.heap.size + 1 + 1, 6, none⟩ (.slice da2 nd2 dc2)).alloc (.cells #[.int .i64 2, .int .i64 d, .int .i64 me, .slice none 0 0] 25)).drew = Z at *
          go_wp2_with fail
          refine bodyPost_ret (v := .tuple #[.agg #[.slice la2 nl2 lc2, .int .i64 t0, .int .i64 t1, .int .i64 t2, .int .i64 t3, .slice ra2 nr2 rc2, .slice da2 nd2 dc2], .slice (some ⟨w4.heap.size, 0, none⟩) 1 1]) ?_ rfl ⟨_, _, rfl, by rw [HG.out.1, HG.out.2.1]; exact HF.out.1, by rw [HG.out.2.2]; exact HF.out.2.2, HF.out.2.1⟩
          simp [results, Try.results10, go_sem, e0, e1, e2, e3, e4, e5, e6]
      · have HG : Hid (hearL L 1 d l = L ∧ houseB L = ((s0, s1, s2, s3), D, dn) ∧ hearM L me 1 d l = [(2, d, me, [])]) := by
          have e1 : hearR (houseB L) 1 d l = none := by
            rw [HN.out.2.2.2.2.2.2]
            unfold hearR
            rw [if_pos rfl, if_neg (by rintro ⟨-, h⟩; rw [hz2] at h; cases h)]
          refine ⟨hearL_none e1, HN.out.2.2.2.2.2.2, ?_⟩
          unfold hearM hearS
          rw [if_pos rfl, HN.out.2.2.2.2.2.2, HVT.out, if_neg (by decide), if_pos rfl]
          rfl
        clear hz2
        obtain ⟨⟨q0, q1, q2, q3, q4, q5, q6⟩, ⟨r0, r1, r3⟩, hlt⟩ := HM2.out.cells
        have hlt0 := HM2.out.hb.lt
        have hlt1 := HM2.out.mb.lt
        obtain ⟨⟨z0, z1, z2, z3, z4, z5, z6⟩, ⟨y0, y1, y2, y3, y4, y5, y6⟩⟩ := zcells HM2.out.zb
        go_upto_region 20 with fail
        go_region
        all_goals
          obtain ⟨hV, hB, hZ, hK⟩ := HM2.out.fin HRR.out.1 HRR.out.2.2.1 (Nat.le_refl _)
          have hsz : (((((((w2.setCell ⟨w.heap.size + 1 + 1, 0, none⟩ (.slice la nl lc)).setCell ⟨w.heap.size + 1 + 1, 1, none⟩ (.int .i64 s0)).setCell ⟨w.heap.size + 1 + 1, 2, none⟩ (.int .i64 s1)).setCell ⟨w.heap.size + 1 + 1, 3, none⟩ (.int .i64 s2)).setCell ⟨w.heap.size + 1 + 1, 4, none⟩ (.int .i64 s3)).setCell ⟨w.heap.size + 1 + 1, 5, none⟩ (.slice ra nr rc)).setCell ⟨w.heap.size + 1 + 1, 6, none⟩ (.slice da nd dc)).heap.size = w2.heap.size := by simp
          have hbA : Below (((((((w2.setCell ⟨w.heap.size + 1 + 1, 0, none⟩ (.slice la nl lc)).setCell ⟨w.heap.size + 1 + 1, 1, none⟩ (.int .i64 s0)).setCell ⟨w.heap.size + 1 + 1, 2, none⟩ (.int .i64 s1)).setCell ⟨w.heap.size + 1 + 1, 3, none⟩ (.int .i64 s2)).setCell ⟨w.heap.size + 1 + 1, 4, none⟩ (.int .i64 s3)).setCell ⟨w.heap.size + 1 + 1, 5, none⟩ (.slice ra nr rc)).setCell ⟨w.heap.size + 1 + 1, 6, none⟩ (.slice da nd dc)).heap.size (((((((w2.setCell ⟨w.heap.size + 1 + 1, 0, none⟩ (.slice la nl lc)).setCell ⟨w.heap.size + 1 + 1, 1, none⟩ (.int .i64 s0)).setCell ⟨w.heap.size + 1 + 1, 2, none⟩ (.int .i64 s1)).setCell ⟨w.heap.size + 1 + 1, 3, none⟩ (.int .i64 s2)).setCell ⟨w.heap.size + 1 + 1, 4, none⟩ (.int .i64 s3)).setCell ⟨w.heap.size + 1 + 1, 5, none⟩ (.slice ra nr rc)).setCell ⟨w.heap.size + 1 + 1, 6, none⟩ (.slice da nd dc)) ((((((((w2.setCell ⟨w.heap.size + 1 + 1, 0, none⟩ (.slice la nl lc)).setCell ⟨w.heap.size + 1 + 1, 1, none⟩ (.int .i64 s0)).setCell ⟨w.heap.size + 1 + 1, 2, none⟩ (.int .i64 s1)).setCell ⟨w.heap.size + 1 + 1, 3, none⟩ (.int .i64 s2)).setCell ⟨w.heap.size + 1 + 1, 4, none⟩ (.int .i64 s3)).setCell ⟨w.heap.size + 1 + 1, 5, none⟩ (.slice ra nr rc)).setCell ⟨w.heap.size + 1 + 1, 6, none⟩ (.slice da nd dc)).alloc (.cells #[.int .i64 2, .int .i64 d, .int .i64 me, .slice none 0 0] 25)).drew := (below1 _ _).drew
          have hS : MsgsV R ((((((((w2.setCell ⟨w.heap.size + 1 + 1, 0, none⟩ (.slice la nl lc)).setCell ⟨w.heap.size + 1 + 1, 1, none⟩ (.int .i64 s0)).setCell ⟨w.heap.size + 1 + 1, 2, none⟩ (.int .i64 s1)).setCell ⟨w.heap.size + 1 + 1, 3, none⟩ (.int .i64 s2)).setCell ⟨w.heap.size + 1 + 1, 4, none⟩ (.int .i64 s3)).setCell ⟨w.heap.size + 1 + 1, 5, none⟩ (.slice ra nr rc)).setCell ⟨w.heap.size + 1 + 1, 6, none⟩ (.slice da nd dc)).alloc (.cells #[.int .i64 2, .int .i64 d, .int .i64 me, .slice none 0 0] 25)).drew (.slice (some ⟨w2.heap.size, 0, none⟩) 1 1) [(2, d, me, [])] := by
            rw [← hsz]
            exact MsgsV.one 2 d me (Blk.drew (Blk.new _ _ _)) (fun h => by have h1 := HRR.out.2.2.2.2 _ h; omega) 1
          have HF : Hid _ := And.intro (hV.below hbA) (And.intro (hB.trans (hbA.mono hB.size)) hS)
          have hZ' := hZ.below hbA hZ.lt
          have e0 := hZ'.cell 0
          have e1 := hZ'.cell 1
          have e2 := hZ'.cell 2
          have e3 := hZ'.cell 3
          have e4 := hZ'.cell 4
          have e5 := hZ'.cell 5
          have e6 := hZ'.cell 6
          simp only [List.getElem?_toArray, List.getElem?_cons_zero, List.getElem?_cons_succ] at e0 e1 e2 e3 e4 e5 e6
          clear q0 q1 q2 q3 q4 q5 q6 r0 r1 r3 hlt hlt0 hlt1 z0 z1 z2 z3 z4 z5 z6 y0 y1 y2 y3 y4 y5 y6 hV hB hZ hK hS hbA hZ' hsz
          generalize ((((((((w2.setCell ⟨w.heap.size + 1 + 1, 0, none⟩ (.slice la nl lc)).setCell ⟨w.heap.size + 1 + 1, 1, none⟩ (.int .i64 s0)).setCell ⟨w.heap.size + 1 + 1, 2, none⟩ (.int .i64 s1)).setCell ⟨w.heap.size + 1 + 1, 3, none⟩ (.int .i64 s2)).setCell ⟨w.heap.size + 1 + 1, 4, none⟩ (.int .i64 s3)).setCell ⟨w.heap.size + 1 + 1, 5, none⟩ (.slice ra nr rc)).setCell ⟨w.heap.size + 1 + 1, 6, none⟩ (.slice da nd dc)).alloc (.cells #[.int .i64 2, .int .i64 d, .int .i64 me, .slice none 0 0] 25)).drew = Z at *
          go_wp2_with fail
          refine bodyPost_ret (v := .tuple #[.agg #[.slice la nl lc, .int .i64 s0, .int .i64 s1, .int .i64 s2, .int .i64 s3, .slice ra nr rc, .slice da nd dc], .slice (some ⟨w2.heap.size, 0, none⟩) 1 1]) ?_ rfl ⟨_, _, rfl, by rw [HG.out.1, HG.out.2.1]; exact HF.out.1, by rw [HG.out.2.2]; exact HF.out.2.2, HF.out.2.1⟩
          simp [results, Try.results10, go_sem, e0, e1, e2, e3, e4, e5, e6]
    · have HG : Hid (hearL L 1 d l = L ∧ houseB L = ((s0, s1, s2, s3), D, dn) ∧ hearM L me 1 d l = [(3, d, me, [])]) := by
        have e1 : hearR (houseB L) 1 d l = none := by
          rw [HN.out.2.2.2.2.2.2]
          unfold hearR
          rw [if_pos rfl, if_neg (by rw [HVT.out]; rintro ⟨h, -⟩; exact h0 h)]
        refine ⟨hearL_none e1, HN.out.2.2.2.2.2.2, ?_⟩
        unfold hearM hearS
        rw [if_pos rfl, HN.out.2.2.2.2.2.2, HVT.out, if_neg h10, if_neg h0]
        rfl
      have h10' : (vt == 10) = false := by simpa using h10
      have h0' : (vt == 0) = false := by simpa using h0
      clear h10 h0
      obtain ⟨⟨q0, q1, q2, q3, q4, q5, q6⟩, ⟨r0, r1, r3⟩, hlt⟩ := HM1.out.cells
      have hlt0 := HM1.out.hb.lt
      have hlt1 := HM1.out.mb.lt
      obtain ⟨⟨z0, z1, z2, z3, z4, z5, z6⟩, ⟨y0, y1, y2, y3, y4, y5, y6⟩⟩ := zcells HM1.out.zb
      go_upto_region 20 with fail
      go_region
      all_goals
        obtain ⟨hV, hB, hZ, hK⟩ := HM1.out.fin HRR.out.1 HRR.out.2.2.1 (Nat.le_refl _)
        have hsz : (((((((w1.setCell ⟨w.heap.size + 1 + 1, 0, none⟩ (.slice la nl lc)).setCell ⟨w.heap.size + 1 + 1, 1, none⟩ (.int .i64 s0)).setCell ⟨w.heap.size + 1 + 1, 2, none⟩ (.int .i64 s1)).setCell ⟨w.heap.size + 1 + 1, 3, none⟩ (.int .i64 s2)).setCell ⟨w.heap.size + 1 + 1, 4, none⟩ (.int .i64 s3)).setCell ⟨w.heap.size + 1 + 1, 5, none⟩ (.slice ra nr rc)).setCell ⟨w.heap.size + 1 + 1, 6, none⟩ (.slice da nd dc)).heap.size = w1.heap.size := by simp
        have hbA : Below (((((((w1.setCell ⟨w.heap.size + 1 + 1, 0, none⟩ (.slice la nl lc)).setCell ⟨w.heap.size + 1 + 1, 1, none⟩ (.int .i64 s0)).setCell ⟨w.heap.size + 1 + 1, 2, none⟩ (.int .i64 s1)).setCell ⟨w.heap.size + 1 + 1, 3, none⟩ (.int .i64 s2)).setCell ⟨w.heap.size + 1 + 1, 4, none⟩ (.int .i64 s3)).setCell ⟨w.heap.size + 1 + 1, 5, none⟩ (.slice ra nr rc)).setCell ⟨w.heap.size + 1 + 1, 6, none⟩ (.slice da nd dc)).heap.size (((((((w1.setCell ⟨w.heap.size + 1 + 1, 0, none⟩ (.slice la nl lc)).setCell ⟨w.heap.size + 1 + 1, 1, none⟩ (.int .i64 s0)).setCell ⟨w.heap.size + 1 + 1, 2, none⟩ (.int .i64 s1)).setCell ⟨w.heap.size + 1 + 1, 3, none⟩ (.int .i64 s2)).setCell ⟨w.heap.size + 1 + 1, 4, none⟩ (.int .i64 s3)).setCell ⟨w.heap.size + 1 + 1, 5, none⟩ (.slice ra nr rc)).setCell ⟨w.heap.size + 1 + 1, 6, none⟩ (.slice da nd dc)) ((((((((w1.setCell ⟨w.heap.size + 1 + 1, 0, none⟩ (.slice la nl lc)).setCell ⟨w.heap.size + 1 + 1, 1, none⟩ (.int .i64 s0)).setCell ⟨w.heap.size + 1 + 1, 2, none⟩ (.int .i64 s1)).setCell ⟨w.heap.size + 1 + 1, 3, none⟩ (.int .i64 s2)).setCell ⟨w.heap.size + 1 + 1, 4, none⟩ (.int .i64 s3)).setCell ⟨w.heap.size + 1 + 1, 5, none⟩ (.slice ra nr rc)).setCell ⟨w.heap.size + 1 + 1, 6, none⟩ (.slice da nd dc)).alloc (.cells #[.int .i64 3, .int .i64 d, .int .i64 me, .slice none 0 0] 25)).drew := (below1 _ _).drew
        have hS : MsgsV R ((((((((w1.setCell ⟨w.heap.size + 1 + 1, 0, none⟩ (.slice la nl lc)).setCell ⟨w.heap.size + 1 + 1, 1, none⟩ (.int .i64 s0)).setCell ⟨w.heap.size + 1 + 1, 2, none⟩ (.int .i64 s1)).setCell ⟨w.heap.size + 1 + 1, 3, none⟩ (.int .i64 s2)).setCell ⟨w.heap.size + 1 + 1, 4, none⟩ (.int .i64 s3)).setCell ⟨w.heap.size + 1 + 1, 5, none⟩ (.slice ra nr rc)).setCell ⟨w.heap.size + 1 + 1, 6, none⟩ (.slice da nd dc)).alloc (.cells #[.int .i64 3, .int .i64 d, .int .i64 me, .slice none 0 0] 25)).drew (.slice (some ⟨w1.heap.size, 0, none⟩) 1 1) [(3, d, me, [])] := by
          rw [← hsz]
          exact MsgsV.one 3 d me (Blk.drew (Blk.new _ _ _)) (fun h => by have h1 := HRR.out.2.2.2.2 _ h; omega) 1
        have HF : Hid _ := And.intro (hV.below hbA) (And.intro (hB.trans (hbA.mono hB.size)) hS)
        have hZ' := hZ.below hbA hZ.lt
        have e0 := hZ'.cell 0
        have e1 := hZ'.cell 1
        have e2 := hZ'.cell 2
        have e3 := hZ'.cell 3
        have e4 := hZ'.cell 4
        have e5 := hZ'.cell 5
        have e6 := hZ'.cell 6
        simp only [List.getElem?_toArray, List.getElem?_cons_zero, List.getElem?_cons_succ] at e0 e1 e2 e3 e4 e5 e6
        clear q0 q1 q2 q3 q4 q5 q6 r0 r1 r3 hlt hlt0 hlt1 z0 z1 z2 z3 z4 z5 z6 y0 y1 y2 y3 y4 y5 y6 hV hB hZ hK hS hbA hZ' hsz
        generalize ((((((((w1.setCell ⟨w.heap.size + 1 + 1, 0, none⟩ (.slice la nl lc)).setCell ⟨w.heap.size + 1 + 1, 1, none⟩ (.int .i64 s0)).setCell ⟨w.heap.size + 1 + 1, 2, none⟩ (.int .i64 s1)).setCell ⟨w.heap.size + 1 + 1, 3, none⟩ (.int .i64 s2)).setCell ⟨w.heap.size + 1 + 1, 4, none⟩ (.int .i64 s3)).setCell ⟨w.heap.size + 1 + 1, 5, none⟩ (.slice ra nr rc)).setCell ⟨w.heap.size + 1 + 1, 6, none⟩ (.slice da nd dc)).alloc (.cells #[.int .i64 3, .int .i64 d, .int .i64 me, .slice none 0 0] 25)).drew = Z at *
        go_wp2_with fail
        refine bodyPost_ret (v := .tuple #[.agg #[.slice la nl lc, .int .i64 s0, .int .i64 s1, .int .i64 s2, .int .i64 s3, .slice ra nr rc, .slice da nd dc], .slice (some ⟨w1.heap.size, 0, none⟩) 1 1]) ?_ rfl ⟨_, _, rfl, by rw [HG.out.1, HG.out.2.1]; exact HF.out.1, by rw [HG.out.2.2]; exact HF.out.2.2, HF.out.2.1⟩
        simp [results, Try.results10, go_sem, e0, e1, e2, e3, e4, e5, e6]
set_option maxRecDepth 20000 in
set_option maxHeartbeats 4000000 in
theorem refHear4_any (R : Nat → Prop) (v : Value) (L : List R3) (me d hs : Int) (ma : Option Addr) (nm cm : Nat) (l : List P3) (w : World) (hR : ∀ b, R b → b < w.heap.size) (hv : HouseV R w v L (houseB L)) (hnm : nm = l.length) (hq : PartsR R w ma l) (hok : OkP l) (hL : OkL L) (hLl : L.length * 40 ≤ 140737488355328) (hwi : Within 2199023255552 (houseB L).1) (hC : ∀ r, hearR (houseB L) 4 d l = some r → CalcL (L ++ [r])) :
    Calls Try.prog 10 #[v, .int .i64 me, .agg #[.int .i64 4, .int .i64 d, .int .i64 hs, .slice ma nm cm]] w fun e w' => ∃ v' sv, e = .returned (.tuple #[v', sv]) ∧ HouseV R w' v' (hearL L 4 d l) (houseB (hearL L 4 d l)) ∧ MsgsV R w' sv (hearM L me 4 d l) ∧ Below w.heap.size w w' := by
  obtain ⟨R1, g1, g2, g3, g4, -⟩ := more_R R hR (M := w.heap.size) (Nat.le_refl _)
  obtain ⟨R', f1, f2, f3, f4, -⟩ := more_R R1 g4 (M := w.heap.size + 1 + 1) (by omega)
  have hRR : ∀ b, R' b → R b ∨ w.heap.size ≤ b := fun b hb => by
    rcases f3 b hb with h | h
    · exact g3 b h
    · right; omega
  have hinv := houseB_inv hL
  obtain ⟨la, nl, lc, Y, ra, nr, rc, XR, da, nd, dc, rfl, hF⟩ := hv
  generalize hhb : houseB L = hx at *
  obtain ⟨⟨s0, s1, s2, s3⟩, D, dn⟩ := hx
  have HN : Hid (nm = l.length ∧ PartsR R' w ma l ∧ OkP l ∧ HInv L.length ((s0, s1, s2, s3), D, dn) ∧ Within 2199023255552 (s0, s1, s2, s3) ∧ (∀ r, hearR ((s0, s1, s2, s3), D, dn) 4 d l = some r → CalcL (L ++ [r])) ∧ houseB L = ((s0, s1, s2, s3), D, dn)) := ⟨hnm, hq.wide hRR, hok, hinv, hwi, hC, hhb⟩
  have HRR : Hid ((∀ b, R b → R' b) ∧ R' w.heap.size ∧ R' (w.heap.size + 1 + 1) ∧ (∀ b, R' b → b < w.heap.size + 1 + 1 + 1) ∧ (∀ b, R b → b < w.heap.size)) := ⟨fun b hb => f1 b (g1 b hb), f1 _ g2, f2, f4, hR⟩
  have hF' := hF.wide hRR
  have hdl : dn.length ≤ 9223372036854775807 := by have := hinv.done; simp at this; omega
  have hbX := below3 w (.cells #[.slice la nl lc, .int .i64 s0, .int .i64 s1, .int .i64 s2, .int .i64 s3, .slice ra nr rc, .slice da nd dc] 31) (.cells #[.int .i64 4, .int .i64 d, .int .i64 hs, .slice ma nm cm] 25) (.cells #[.slice none 0 0, .int .i64 0, .int .i64 0, .int .i64 0, .int .i64 0, .slice none 0 0, .slice none 0 0] 31)
  have hM : HearMid R' w (((w.alloc (.cells #[.slice la nl lc, .int .i64 s0, .int .i64 s1, .int .i64 s2, .int .i64 s3, .slice ra nr rc, .slice da nd dc] 31)).alloc (.cells #[.int .i64 4, .int .i64 d, .int .i64 hs, .slice ma nm cm] 25)).alloc (.cells #[.slice none 0 0, .int .i64 0, .int .i64 0, .int .i64 0, .int .i64 0, .slice none 0 0, .slice none 0 0] 31)) w.heap.size 4 d hs (.slice ma nm cm) la nl lc Y ra nr rc XR da nd dc L s0 s1 s2 s3 D dn := ⟨((Blk.new w _ _).alloc _).alloc _, Blk.alloc (heap2 _ _ _) _, heap3a _ _ _ _ rfl, hF'.below hbX, hbX⟩
  clear hnm hq hok hinv hwi hC hF hF' g1 g2 g3 g4 f1 f2 f3 f4 hRR hhb hbX hL hR
  go_enter Try.func10, Try.ntmps10
  go_upto_if 13 with fail
  generalize (((w.alloc (.cells #[.slice la nl lc, .int .i64 s0, .int .i64 s1, .int .i64 s2, .int .i64 s3, .slice ra nr rc, .slice da nd dc] 31)).alloc (.cells #[.int .i64 4, .int .i64 d, .int .i64 hs, .slice ma nm cm] 25)).alloc (.cells #[.slice none 0 0, .int .i64 0, .int .i64 0, .int .i64 0, .int .i64 0, .slice none 0 0, .slice none 0 0] 31)) = W at *
  have HM : Hid (HearMid R' w W w.heap.size 4 d hs (.slice ma nm cm) la nl lc Y ra nr rc XR da nd dc L s0 s1 s2 s3 D dn) := hM
  clear hM
  obtain ⟨⟨q0, q1, q2, q3, q4, q5, q6⟩, ⟨r0, r1, r3⟩, hlt⟩ := HM.out.cells
  have hlt0 := HM.out.hb.lt
  have hlt1 := HM.out.mb.lt
  go_wp2_with fail
  refine (refReady_any la ra da nl lc nr rc nd dc s0 s1 s2 s3 d XR D W (HM.out.F.rdyAt HN.out.2.2.2.1 (by omega))).mono ?_
  rintro e w1 ⟨rfl, hb2⟩
  have HM1 : Hid (HearMid R' w w1 w.heap.size 4 d hs (.slice ma nm cm) la nl lc Y ra nr rc XR da nd dc L s0 s1 s2 s3 D dn) := HM.out.below hb2
  clear q0 q1 q2 q3 q4 q5 q6 r0 r1 r3 hlt hlt0 hlt1 HM hb2
  cases hz2 : hasD D d
  · have HGa : Hid (hearL L 4 d l = L) := by
      refine hearL_none ?_
      rw [HN.out.2.2.2.2.2.2]
      unfold hearR
      simp [hz2]
    clear hz2
    obtain ⟨⟨q0, q1, q2, q3, q4, q5, q6⟩, ⟨r0, r1, r3⟩, hlt⟩ := HM1.out.cells
    have hlt0 := HM1.out.hb.lt
    have hlt1 := HM1.out.mb.lt
    go_wp2_with fail
    refine (refIn_any da dn dc nd d w1 HM1.out.F.dn hdl HM1.out.F.done).mono ?_
    rintro e w2 ⟨rfl, hb5⟩
    have HM2 : Hid (HearMid R' w w2 w.heap.size 4 d hs (.slice ma nm cm) la nl lc Y ra nr rc XR da nd dc L s0 s1 s2 s3 D dn) := HM1.out.below hb5
    clear q0 q1 q2 q3 q4 q5 q6 r0 r1 r3 hlt hlt0 hlt1 HM1 hb5
    cases hz3 : inI dn d
    · have HG : Hid (hearL L 4 d l = L ∧ houseB L = ((s0, s1, s2, s3), D, dn) ∧ hearM L me 4 d l = []) := by
        refine ⟨HGa.out, HN.out.2.2.2.2.2.2, ?_⟩
        unfold hearM hearS
        rw [if_neg (by decide), if_pos rfl, HGa.out, HN.out.2.2.2.2.2.2]
        simp [hz3]
      clear hz3
      obtain ⟨⟨q0, q1, q2, q3, q4, q5, q6⟩, ⟨r0, r1, r3⟩, hlt⟩ := HM2.out.cells
      have hlt0 := HM2.out.hb.lt
      have hlt1 := HM2.out.mb.lt
      obtain ⟨⟨z0, z1, z2, z3, z4, z5, z6⟩, ⟨y0, y1, y2, y3, y4, y5, y6⟩⟩ := zcells HM2.out.zb
      go_wp2_with fail
      obtain ⟨hV, hB, hZ, -⟩ := HM2.out.fin HRR.out.1 HRR.out.2.2.1 (Nat.le_refl _)
      have HF : Hid _ := And.intro hV hB
      have e0 := hZ.cell 0
      have e1 := hZ.cell 1
      have e2 := hZ.cell 2
      have e3 := hZ.cell 3
      have e4 := hZ.cell 4
      have e5 := hZ.cell 5
      have e6 := hZ.cell 6
      simp only [List.getElem?_toArray, List.getElem?_cons_zero, List.getElem?_cons_succ] at e0 e1 e2 e3 e4 e5 e6
      clear q0 q1 q2 q3 q4 q5 q6 r0 r1 r3 hlt hlt0 hlt1 z0 z1 z2 z3 z4 z5 z6 y0 y1 y2 y3 y4 y5 y6 hV hB hZ
      generalize (((((((w2.setCell ⟨w.heap.size + 1 + 1, 0, none⟩ (.slice la nl lc)).setCell ⟨w.heap.size + 1 + 1, 1, none⟩ (.int .i64 s0)).setCell ⟨w.heap.size + 1 + 1, 2, none⟩ (.int .i64 s1)).setCell ⟨w.heap.size + 1 + 1, 3, none⟩ (.int .i64 s2)).setCell ⟨w.heap.size + 1 + 1, 4, none⟩ (.int .i64 s3)).setCell ⟨w.heap.size + 1 + 1, 5, none⟩ (.slice ra nr rc)).setCell ⟨w.heap.size + 1 + 1, 6, none⟩ (.slice da nd dc)) = Z at *
      refine bodyPost_ret (v := .tuple #[.agg #[.slice la nl lc, .int .i64 s0, .int .i64 s1, .int .i64 s2, .int .i64 s3, .slice ra nr rc, .slice da nd dc], .slice none 0 0]) ?_ rfl ⟨_, _, rfl, by rw [HG.out.1, HG.out.2.1]; exact HF.out.1, by rw [HG.out.2.2]; exact MsgsV.nil _ _, HF.out.2⟩
      simp [results, Try.results10, go_sem, e0, e1, e2, e3, e4, e5, e6]
    · have HG : Hid (hearL L 4 d l = L ∧ houseB L = ((s0, s1, s2, s3), D, dn) ∧ hearM L me 4 d l = [(6, d, me, [])]) := by
        refine ⟨HGa.out, HN.out.2.2.2.2.2.2, ?_⟩
        unfold hearM hearS
        rw [if_neg (by decide), if_pos rfl, HGa.out, HN.out.2.2.2.2.2.2]
        simp [hz3]
      clear hz3
      obtain ⟨⟨q0, q1, q2, q3, q4, q5, q6⟩, ⟨r0, r1, r3⟩, hlt⟩ := HM2.out.cells
      have hlt0 := HM2.out.hb.lt
      have hlt1 := HM2.out.mb.lt
      obtain ⟨⟨z0, z1, z2, z3, z4, z5, z6⟩, ⟨y0, y1, y2, y3, y4, y5, y6⟩⟩ := zcells HM2.out.zb
      go_upto_region 20 with fail
      go_region
      all_goals
        obtain ⟨hV, hB, hZ, hK⟩ := HM2.out.fin HRR.out.1 HRR.out.2.2.1 (Nat.le_refl _)
        have hsz : (((((((w2.setCell ⟨w.heap.size + 1 + 1, 0, none⟩ (.slice la nl lc)).setCell ⟨w.heap.size + 1 + 1, 1, none⟩ (.int .i64 s0)).setCell ⟨w.heap.size + 1 + 1, 2, none⟩ (.int .i64 s1)).setCell ⟨w.heap.size + 1 + 1, 3, none⟩ (.int .i64 s2)).setCell ⟨w.heap.size + 1 + 1, 4, none⟩ (.int .i64 s3)).setCell ⟨w.heap.size + 1 + 1, 5, none⟩ (.slice ra nr rc)).setCell ⟨w.heap.size + 1 + 1, 6, none⟩ (.slice da nd dc)).heap.size = w2.heap.size := by simp
        have hbA : Below (((((((w2.setCell ⟨w.heap.size + 1 + 1, 0, none⟩ (.slice la nl lc)).setCell ⟨w.heap.size + 1 + 1, 1, none⟩ (.int .i64 s0)).setCell ⟨w.heap.size + 1 + 1, 2, none⟩ (.int .i64 s1)).setCell ⟨w.heap.size + 1 + 1, 3, none⟩ (.int .i64 s2)).setCell ⟨w.heap.size + 1 + 1, 4, none⟩ (.int .i64 s3)).setCell ⟨w.heap.size + 1 + 1, 5, none⟩ (.slice ra nr rc)).setCell ⟨w.heap.size + 1 + 1, 6, none⟩ (.slice da nd dc)).heap.size (((((((w2.setCell ⟨w.heap.size + 1 + 1, 0, none⟩ (.slice la nl lc)).setCell ⟨w.heap.size + 1 + 1, 1, none⟩ (.int .i64 s0)).setCell ⟨w.heap.size + 1 + 1, 2, none⟩ (.int .i64 s1)).setCell ⟨w.heap.size + 1 + 1, 3, none⟩ (.int .i64 s2)).setCell ⟨w.heap.size + 1 + 1, 4, none⟩ (.int .i64 s3)).setCell ⟨w.heap.size + 1 + 1, 5, none⟩ (.slice ra nr rc)).setCell ⟨w.heap.size + 1 + 1, 6, none⟩ (.slice da nd dc)) ((((((((w2.setCell ⟨w.heap.size + 1 + 1, 0, none⟩ (.slice la nl lc)).setCell ⟨w.heap.size + 1 + 1, 1, none⟩ (.int .i64 s0)).setCell ⟨w.heap.size + 1 + 1, 2, none⟩ (.int .i64 s1)).setCell ⟨w.heap.size + 1 + 1, 3, none⟩ (.int .i64 s2)).setCell ⟨w.heap.size + 1 + 1, 4, none⟩ (.int .i64 s3)).setCell ⟨w.heap.size + 1 + 1, 5, none⟩ (.slice ra nr rc)).setCell ⟨w.heap.size + 1 + 1, 6, none⟩ (.slice da nd dc)).alloc (.cells #[.int .i64 6, .int .i64 d, .int .i64 me, .slice none 0 0] 25)).drew := (below1 _ _).drew
        have hS : MsgsV R ((((((((w2.setCell ⟨w.heap.size + 1 + 1, 0, none⟩ (.slice la nl lc)).setCell ⟨w.heap.size + 1 + 1, 1, none⟩ (.int .i64 s0)).setCell ⟨w.heap.size + 1 + 1, 2, none⟩ (.int .i64 s1)).setCell ⟨w.heap.size + 1 + 1, 3, none⟩ (.int .i64 s2)).setCell ⟨w.heap.size + 1 + 1, 4, none⟩ (.int .i64 s3)).setCell ⟨w.heap.size + 1 + 1, 5, none⟩ (.slice ra nr rc)).setCell ⟨w.heap.size + 1 + 1, 6, none⟩ (.slice da nd dc)).alloc (.cells #[.int .i64 6, .int .i64 d, .int .i64 me, .slice none 0 0] 25)).drew (.slice (some ⟨w2.heap.size, 0, none⟩) 1 1) [(6, d, me, [])] := by
          rw [← hsz]
          exact MsgsV.one 6 d me (Blk.drew (Blk.new _ _ _)) (fun h => by have h1 := HRR.out.2.2.2.2 _ h; omega) 1
        have HF : Hid _ := And.intro (hV.below hbA) (And.intro (hB.trans (hbA.mono hB.size)) hS)
        have hZ' := hZ.below hbA hZ.lt
        have e0 := hZ'.cell 0
        have e1 := hZ'.cell 1
        have e2 := hZ'.cell 2
        have e3 := hZ'.cell 3
        have e4 := hZ'.cell 4
        have e5 := hZ'.cell 5
        have e6 := hZ'.cell 6
        simp only [List.getElem?_toArray, List.getElem?_cons_zero, List.getElem?_cons_succ] at e0 e1 e2 e3 e4 e5 e6
        clear q0 q1 q2 q3 q4 q5 q6 r0 r1 r3 hlt hlt0 hlt1 z0 z1 z2 z3 z4 z5 z6 y0 y1 y2 y3 y4 y5 y6 hV hB hZ hK hS hbA hZ' hsz
        generalize ((((((((w2.setCell ⟨w.heap.size + 1 + 1, 0, none⟩ (.slice la nl lc)).setCell ⟨w.heap.size + 1 + 1, 1, none⟩ (.int .i64 s0)).setCell ⟨w.heap.size + 1 + 1, 2, none⟩ (.int .i64 s1)).setCell ⟨w.heap.size + 1 + 1, 3, none⟩ (.int .i64 s2)).setCell ⟨w.heap.size + 1 + 1, 4, none⟩ (.int .i64 s3)).setCell ⟨w.heap.size + 1 + 1, 5, none⟩ (.slice ra nr rc)).setCell ⟨w.heap.size + 1 + 1, 6, none⟩ (.slice da nd dc)).alloc (.cells #[.int .i64 6, .int .i64 d, .int .i64 me, .slice none 0 0] 25)).drew = Z at *
        go_wp2_with fail
        refine bodyPost_ret (v := .tuple #[.agg #[.slice la nl lc, .int .i64 s0, .int .i64 s1, .int .i64 s2, .int .i64 s3, .slice ra nr rc, .slice da nd dc], .slice (some ⟨w2.heap.size, 0, none⟩) 1 1]) ?_ rfl ⟨_, _, rfl, by rw [HG.out.1, HG.out.2.1]; exact HF.out.1, by rw [HG.out.2.2]; exact HF.out.2.2, HF.out.2.1⟩
        simp [results, Try.results10, go_sem, e0, e1, e2, e3, e4, e5, e6]
  · have HRc : Hid (hearR ((s0, s1, s2, s3), D, dn) 4 d l = some (2, d, [])) := by
      show _ = _
      unfold hearR
      simp [hz2]
    have HGa : Hid (hearL L 4 d l = L ++ [(2, d, [])]) := hearL_some (by rw [HN.out.2.2.2.2.2.2]; exact HRc.out)
    clear hz2
    obtain ⟨⟨q0, q1, q2, q3, q4, q5, q6⟩, ⟨r0, r1, r3⟩, hlt⟩ := HM1.out.cells
    have hlt0 := HM1.out.hb.lt
    have hlt1 := HM1.out.mb.lt
    obtain ⟨wa, wb, hu1, hu2, hlk, hbm⟩ := kindMap w1 4 (by decide)
    have hlk' : (Instr.lookup 76 (.map (some w1.heap.size)) (.int .i64 4) false).run Try.prog wb = .ok (.int .i64 2) wb := hlk
    have HM2 : Hid (HearMid R' w wb w.heap.size 4 d hs (.slice ma nm cm) la nl lc Y ra nr rc XR da nd dc L s0 s1 s2 s3 D dn) := HM1.out.below hbm
    obtain ⟨-, ⟨p0, p1, -⟩, -⟩ := HM2.out.cells
    clear hlk hbm
    have hmm := @run_makeMap Try.prog
    go_wp2_with fail
    clear hmm hu1 hu2 hlk' p0 p1 HM1
    refine (refNote_any R' la ra da nl lc nr rc nd dc s0 s1 s2 s3 Y 2 d none 0 0 [] wb (fun b hb => by have h1 := HRR.out.2.2.2.1 b hb; have h2 := HM2.out.zb.lt; omega) HM2.out.F.ln rfl (by rw [HM2.out.F.says]; exact HN.out.2.2.2.2.2.1 _ HRc.out) HM2.out.F.log HM2.out.F.parts (PartsR.nil _ _ _)).mono ?_
    rintro e w3 ⟨v3, rfl, hV3, hb3⟩
    have HM3 : Hid (HearMid R' w w3 w.heap.size 4 d hs (.slice ma nm cm) la nl lc Y ra nr rc XR da nd dc L s0 s1 s2 s3 D dn) := HM2.out.below hb3
    rw [HM2.out.F.says] at hV3
    clear q0 q1 q2 q3 q4 q5 q6 r0 r1 r3 hlt hlt0 hlt1 HM2 hb3
    generalize hh2 : houseB (L ++ [((2 : Int), d, ([] : List P3))]) = hx2 at *
    have HH2 : Hid (houseB (L ++ [((2 : Int), d, ([] : List P3))]) = hx2) := hh2
    clear hh2
    obtain ⟨⟨t0, t1, t2, t3⟩, D2, dn2⟩ := hx2
    obtain ⟨la2, nl2, lc2, Y2, ra2, nr2, rc2, XR2, da2, nd2, dc2, rfl, hF3⟩ := hV3
    have HM4 : Hid _ := HM3.out.put (lc2 := lc2) (rc2 := rc2) (dc2 := dc2) hF3 HRR.out.2.1 (Nat.le_refl _)
    clear hF3
    obtain ⟨⟨z0, z1, z2, z3, z4, z5, z6⟩, ⟨y0, y1, y2, y3, y4, y5, y6⟩⟩ := zcells HM3.out.hb
    have hdl2 : dn2.length ≤ 9223372036854775807 := by
      have h1 := (houseB_inv (HN.out.2.2.2.2.2.1 _ HRc.out).ok).done
      have h2 := (HN.out.2.2.2.2.2.1 _ HRc.out).size
      rw [HH2.out] at h1
      simp at h1 h2
      omega
    go_upto_region 17 with fail
    clear z0 z1 z2 z3 z4 z5 z6 y0 y1 y2 y3 y4 y5 y6
    generalize (((((((w3.setCell ⟨w.heap.size, 0, none⟩ (.slice la2 nl2 lc2)).setCell ⟨w.heap.size, 1, none⟩ (.int .i64 t0)).setCell ⟨w.heap.size, 2, none⟩ (.int .i64 t1)).setCell ⟨w.heap.size, 3, none⟩ (.int .i64 t2)).setCell ⟨w.heap.size, 4, none⟩ (.int .i64 t3)).setCell ⟨w.heap.size, 5, none⟩ (.slice ra2 nr2 rc2)).setCell ⟨w.heap.size, 6, none⟩ (.slice da2 nd2 dc2)) = w4 at *
    obtain ⟨⟨q0, q1, q2, q3, q4, q5, q6⟩, ⟨r0, r1, r3⟩, hlt⟩ := HM4.out.cells
    have hlt0 := HM4.out.hb.lt
    have hlt1 := HM4.out.mb.lt
    go_wp2_with fail
    refine (refIn_any da2 dn2 dc2 nd2 d w4 HM4.out.F.dn hdl2 HM4.out.F.done).mono ?_
    rintro e w5 ⟨rfl, hb5⟩
    have HM5 : Hid (HearMid R' w w5 w.heap.size 4 d hs (.slice ma nm cm) la2 nl2 lc2 Y2 ra2 nr2 rc2 XR2 da2 nd2 dc2 (L ++ [((2 : Int), d, ([] : List P3))]) t0 t1 t2 t3 D2 dn2) := HM4.out.below hb5
    clear q0 q1 q2 q3 q4 q5 q6 r0 r1 r3 hlt hlt0 hlt1 HM4 hb5
    cases hz3 : inI dn2 d
    · have HG : Hid (hearL L 4 d l = L ++ [(2, d, [])] ∧ houseB (L ++ [((2 : Int), d, ([] : List P3))]) = ((t0, t1, t2, t3), D2, dn2) ∧ hearM L me 4 d l = []) := by
        refine ⟨HGa.out, HH2.out, ?_⟩
        unfold hearM hearS
        rw [if_neg (by decide), if_pos rfl, HGa.out, HH2.out]
        simp [hz3]
      clear hz3
      obtain ⟨⟨q0, q1, q2, q3, q4, q5, q6⟩, ⟨r0, r1, r3⟩, hlt⟩ := HM5.out.cells
      have hlt0 := HM5.out.hb.lt
      have hlt1 := HM5.out.mb.lt
      obtain ⟨⟨z0, z1, z2, z3, z4, z5, z6⟩, ⟨y0, y1, y2, y3, y4, y5, y6⟩⟩ := zcells HM5.out.zb
      go_wp2_with fail
      obtain ⟨hV, hB, hZ, -⟩ := HM5.out.fin HRR.out.1 HRR.out.2.2.1 (Nat.le_refl _)
      have HF : Hid _ := And.intro hV hB
      have e0 := hZ.cell 0
      have e1 := hZ.cell 1
      have e2 := hZ.cell 2
      have e3 := hZ.cell 3
      have e4 := hZ.cell 4
      have e5 := hZ.cell 5
      have e6 := hZ.cell 6
      simp only [List.getElem?_toArray, List.getElem?_cons_zero, List.getElem?_cons_succ] at e0 e1 e2 e3 e4 e5 e6
      clear q0 q1 q2 q3 q4 q5 q6 r0 r1 r3 hlt hlt0 hlt1 z0 z1 z2 z3 z4 z5 z6 y0 y1 y2 y3 y4 y5 y6 hV hB hZ
      generalize (((((((w5.setCell ⟨w.heap.size + 1 + 1, 0, none⟩ (.slice la2 nl2 lc2)).setCell ⟨w.heap.size + 1 + 1, 1, none⟩ (.int .i64 t0)).setCell ⟨w.heap.size + 1 + 1, 2, none⟩ (.int .i64 t1)).setCell ⟨w.heap.size + 1 + 1, 3, none⟩ (.int .i64 t2)).setCell ⟨w.heap.size + 1 + 1, 4, none⟩ (.int .i64 t3)).setCell ⟨w.heap.size + 1 + 1, 5, none⟩ (.slice ra2 nr2 rc2)).setCell ⟨w.heap.size + 1 + 1, 6, none⟩ (.slice da2 nd2 dc2)) = Z at *
      refine bodyPost_ret (v := .tuple #[.agg #[.slice la2 nl2 lc2, .int .i64 t0, .int .i64 t1, .int .i64 t2, .int .i64 t3, .slice ra2 nr2 rc2, .slice da2 nd2 dc2], .slice none 0 0]) ?_ rfl ⟨_, _, rfl, by rw [HG.out.1, HG.out.2.1]; exact HF.out.1, by rw [HG.out.2.2]; exact MsgsV.nil _ _, HF.out.2⟩
      simp [results, Try.results10, go_sem, e0, e1, e2, e3, e4, e5, e6]
    · have HG : Hid (hearL L 4 d l = L ++ [(2, d, [])] ∧ houseB (L ++ [((2 : Int), d, ([] : List P3))]) = ((t0, t1, t2, t3), D2, dn2) ∧ hearM L me 4 d l = [(6, d, me, [])]) := by
        refine ⟨HGa.out, HH2.out, ?_⟩
        unfold hearM hearS
        rw [if_neg (by decide), if_pos rfl, HGa.out, HH2.out]
        simp [hz3]
      clear hz3
      obtain ⟨⟨q0, q1, q2, q3, q4, q5, q6⟩, ⟨r0, r1, r3⟩, hlt⟩ := HM5.out.cells
      have hlt0 := HM5.out.hb.lt
      have hlt1 := HM5.out.mb.lt
      obtain ⟨⟨z0, z1, z2, z3, z4, z5, z6⟩, ⟨y0, y1, y2, y3, y4, y5, y6⟩⟩ := zcells HM5.out.zb
      go_upto_region 20 with fail
      go_region
      all_goals
        obtain ⟨hV, hB, hZ, hK⟩ := HM5.out.fin HRR.out.1 HRR.out.2.2.1 (Nat.le_refl _)
        have hsz : (((((((w5.setCell ⟨w.heap.size + 1 + 1, 0, none⟩ (.slice la2 nl2 lc2)).setCell ⟨w.heap.size + 1 + 1, 1, none⟩ (.int .i64 t0)).setCell ⟨w.heap.size + 1 + 1, 2, none⟩ (.int .i64 t1)).setCell ⟨w.heap.size + 1 + 1, 3, none⟩ (.int .i64 t2)).setCell ⟨w.heap.size + 1 + 1, 4, none⟩ (.int .i64 t3)).setCell ⟨w.heap.size + 1 + 1, 5, none⟩ (.slice ra2 nr2 rc2)).setCell ⟨w.heap.size + 1 + 1, 6, none⟩ (.slice da2 nd2 dc2)).heap.size = w5.heap.size := by simp
        have hbA : Below (((((((w5.setCell ⟨w.heap.size + 1 + 1, 0, none⟩ (.slice la2 nl2 lc2)).setCell ⟨w.heap.size + 1 + 1, 1, none⟩ (.int .i64 t0)).setCell ⟨w.heap.size + 1 + 1, 2, none⟩ (.int .i64 t1)).setCell ⟨w.heap.size + 1 + 1, 3, none⟩ (.int .i64 t2)).setCell ⟨w.heap.size + 1 + 1, 4, none⟩ (.int .i64 t3)).setCell ⟨w.heap.size + 1 + 1, 5, none⟩ (.slice ra2 nr2 rc2)).setCell ⟨w.heap.size + 1 + 1, 6, none⟩ (.slice da2 nd2 dc2)).heap.size (((((((w5.setCell ⟨w.heap.size + 1 + 1, 0, none⟩ (.slice la2 nl2 lc2)).setCell ⟨w.heap.size + 1 + 1, 1, none⟩ (.int .i64 t0)).setCell ⟨w.heap.size + 1 + 1, 2, none⟩ (.int .i64 t1)).setCell ⟨w.heap.size + 1 + 1, 3, none⟩ (.int .i64 t2)).setCell ⟨w.heap.size + 1 + 1, 4, none⟩ (.int .i64 t3)).setCell ⟨w.heap.size + 1 + 1, 5, none⟩ (.slice ra2 nr2 rc2)).setCell ⟨w.heap.size + 1 + 1, 6, none⟩ (.slice da2 nd2 dc2)) ((((((((w5.setCell ⟨w.heap.size + 1 + 1, 0, none⟩ (.slice la2 nl2 lc2)).setCell ⟨w.heap.size + 1 + 1, 1, none⟩ (.int .i64 t0)).setCell ⟨w.heap.size + 1 + 1, 2, none⟩ (.int .i64 t1)).setCell ⟨w.heap.size + 1 + 1, 3, none⟩ (.int .i64 t2)).setCell ⟨w.heap.size + 1 + 1, 4, none⟩ (.int .i64 t3)).setCell ⟨w.heap.size + 1 + 1, 5, none⟩ (.slice ra2 nr2 rc2)).setCell ⟨w.heap.size + 1 + 1, 6, none⟩ (.slice da2 nd2 dc2)).alloc (.cells #[.int .i64 6, .int .i64 d, .int .i64 me, .slice none 0 0] 25)).drew := (below1 _ _).drew
        have hS : MsgsV R ((((((((w5.setCell ⟨w.heap.size + 1 + 1, 0, none⟩ (.slice la2 nl2 lc2)).setCell ⟨w.heap.size + 1 + 1, 1, none⟩ (.int .i64 t0)).setCell ⟨w.heap.size + 1 + 1, 2, none⟩ (.int .i64 t1)).setCell ⟨w.heap.size + 1 + 1, 3, none⟩ (.int .i64 t2)).setCell ⟨w.heap.size + 1 + 1, 4, none⟩ (.int .i64 t3)).setCell ⟨w.heap.size + 1 + 1, 5, none⟩ (.slice ra2 nr2 rc2)).setCell ⟨w.heap.size + 1 + 1, 6, none⟩ (.slice da2 nd2 dc2)).alloc (.cells #[.int .i64 6, .int .i64 d, .int .i64 me, .slice none 0 0] 25)).drew (.slice (some ⟨w5.heap.size, 0, none⟩) 1 1) [(6, d, me, [])] := by
          rw [← hsz]
          exact MsgsV.one 6 d me (Blk.drew (Blk.new _ _ _)) (fun h => by have h1 := HRR.out.2.2.2.2 _ h; omega) 1
        have HF : Hid _ := And.intro (hV.below hbA) (And.intro (hB.trans (hbA.mono hB.size)) hS)
        have hZ' := hZ.below hbA hZ.lt
        have e0 := hZ'.cell 0
        have e1 := hZ'.cell 1
        have e2 := hZ'.cell 2
        have e3 := hZ'.cell 3
        have e4 := hZ'.cell 4
        have e5 := hZ'.cell 5
        have e6 := hZ'.cell 6
        simp only [List.getElem?_toArray, List.getElem?_cons_zero, List.getElem?_cons_succ] at e0 e1 e2 e3 e4 e5 e6
        clear q0 q1 q2 q3 q4 q5 q6 r0 r1 r3 hlt hlt0 hlt1 z0 z1 z2 z3 z4 z5 z6 y0 y1 y2 y3 y4 y5 y6 hV hB hZ hK hS hbA hZ' hsz
        generalize ((((((((w5.setCell ⟨w.heap.size + 1 + 1, 0, none⟩ (.slice la2 nl2 lc2)).setCell ⟨w.heap.size + 1 + 1, 1, none⟩ (.int .i64 t0)).setCell ⟨w.heap.size + 1 + 1, 2, none⟩ (.int .i64 t1)).setCell ⟨w.heap.size + 1 + 1, 3, none⟩ (.int .i64 t2)).setCell ⟨w.heap.size + 1 + 1, 4, none⟩ (.int .i64 t3)).setCell ⟨w.heap.size + 1 + 1, 5, none⟩ (.slice ra2 nr2 rc2)).setCell ⟨w.heap.size + 1 + 1, 6, none⟩ (.slice da2 nd2 dc2)).alloc (.cells #[.int .i64 6, .int .i64 d, .int .i64 me, .slice none 0 0] 25)).drew = Z at *
        go_wp2_with fail
        refine bodyPost_ret (v := .tuple #[.agg #[.slice la2 nl2 lc2, .int .i64 t0, .int .i64 t1, .int .i64 t2, .int .i64 t3, .slice ra2 nr2 rc2, .slice da2 nd2 dc2], .slice (some ⟨w5.heap.size, 0, none⟩) 1 1]) ?_ rfl ⟨_, _, rfl, by rw [HG.out.1, HG.out.2.1]; exact HF.out.1, by rw [HG.out.2.2]; exact HF.out.2.2, HF.out.2.1⟩
        simp [results, Try.results10, go_sem, e0, e1, e2, e3, e4, e5, e6]

set_option maxRecDepth 20000 in
set_option maxHeartbeats 4000000 in
theorem refHear5_any (R : Nat → Prop) (v : Value) (L : List R3) (me d hs : Int) (ma : Option Addr) (nm cm : Nat) (l : List P3) (w : World) (hR : ∀ b, R b → b < w.heap.size) (hv : HouseV R w v L (houseB L)) (hnm : nm = l.length) (hq : PartsR R w ma l) (hok : OkP l) (hL : OkL L) (hLl : L.length * 40 ≤ 140737488355328) (hwi : Within 2199023255552 (houseB L).1) (hC : ∀ r, hearR (houseB L) 5 d l = some r → CalcL (L ++ [r])) :
    Calls Try.prog 10 #[v, .int .i64 me, .agg #[.int .i64 5, .int .i64 d, .int .i64 hs, .slice ma nm cm]] w fun e w' => ∃ v' sv, e = .returned (.tuple #[v', sv]) ∧ HouseV R w' v' (hearL L 5 d l) (houseB (hearL L 5 d l)) ∧ MsgsV R w' sv (hearM L me 5 d l) ∧ Below w.heap.size w w' := by
  obtain ⟨R1, g1, g2, g3, g4, -⟩ := more_R R hR (M := w.heap.size) (Nat.le_refl _)
  obtain ⟨R', f1, f2, f3, f4, -⟩ := more_R R1 g4 (M := w.heap.size + 1 + 1) (by omega)
  have hRR : ∀ b, R' b → R b ∨ w.heap.size ≤ b := fun b hb => by
    rcases f3 b hb with h | h
    · exact g3 b h
    · right; omega
  have hinv := houseB_inv hL
  obtain ⟨la, nl, lc, Y, ra, nr, rc, XR, da, nd, dc, rfl, hF⟩ := hv
  generalize hhb : houseB L = hx at *
  obtain ⟨⟨s0, s1, s2, s3⟩, D, dn⟩ := hx
  have HN : Hid (nm = l.length ∧ PartsR R' w ma l ∧ OkP l ∧ HInv L.length ((s0, s1, s2, s3), D, dn) ∧ Within 2199023255552 (s0, s1, s2, s3) ∧ (∀ r, hearR ((s0, s1, s2, s3), D, dn) 5 d l = some r → CalcL (L ++ [r])) ∧ houseB L = ((s0, s1, s2, s3), D, dn)) := ⟨hnm, hq.wide hRR, hok, hinv, hwi, hC, hhb⟩
  have HRR : Hid ((∀ b, R b → R' b) ∧ R' w.heap.size ∧ R' (w.heap.size + 1 + 1) ∧ (∀ b, R' b → b < w.heap.size + 1 + 1 + 1) ∧ (∀ b, R b → b < w.heap.size)) := ⟨fun b hb => f1 b (g1 b hb), f1 _ g2, f2, f4, hR⟩
  have hF' := hF.wide hRR
  have hdl : dn.length ≤ 9223372036854775807 := by have := hinv.done; simp at this; omega
  have hbX := below3 w (.cells #[.slice la nl lc, .int .i64 s0, .int .i64 s1, .int .i64 s2, .int .i64 s3, .slice ra nr rc, .slice da nd dc] 31) (.cells #[.int .i64 5, .int .i64 d, .int .i64 hs, .slice ma nm cm] 25) (.cells #[.slice none 0 0, .int .i64 0, .int .i64 0, .int .i64 0, .int .i64 0, .slice none 0 0, .slice none 0 0] 31)
  have hM : HearMid R' w (((w.alloc (.cells #[.slice la nl lc, .int .i64 s0, .int .i64 s1, .int .i64 s2, .int .i64 s3, .slice ra nr rc, .slice da nd dc] 31)).alloc (.cells #[.int .i64 5, .int .i64 d, .int .i64 hs, .slice ma nm cm] 25)).alloc (.cells #[.slice none 0 0, .int .i64 0, .int .i64 0, .int .i64 0, .int .i64 0, .slice none 0 0, .slice none 0 0] 31)) w.heap.size 5 d hs (.slice ma nm cm) la nl lc Y ra nr rc XR da nd dc L s0 s1 s2 s3 D dn := ⟨((Blk.new w _ _).alloc _).alloc _, Blk.alloc (heap2 _ _ _) _, heap3a _ _ _ _ rfl, hF'.below hbX, hbX⟩
  clear hnm hq hok hinv hwi hC hF hF' g1 g2 g3 g4 f1 f2 f3 f4 hRR hhb hbX hL hR
  go_enter Try.func10, Try.ntmps10
  go_upto_if 13 with fail
  generalize (((w.alloc (.cells #[.slice la nl lc, .int .i64 s0, .int .i64 s1, .int .i64 s2, .int .i64 s3, .slice ra nr rc, .slice da nd dc] 31)).alloc (.cells #[.int .i64 5, .int .i64 d, .int .i64 hs, .slice ma nm cm] 25)).alloc (.cells #[.slice none 0 0, .int .i64 0, .int .i64 0, .int .i64 0, .int .i64 0, .slice none 0 0, .slice none 0 0] 31)) = W at *
  have HM : Hid (HearMid R' w W w.heap.size 5 d hs (.slice ma nm cm) la nl lc Y ra nr rc XR da nd dc L s0 s1 s2 s3 D dn) := hM
  clear hM
  obtain ⟨⟨q0, q1, q2, q3, q4, q5, q6⟩, ⟨r0, r1, r3⟩, hlt⟩ := HM.out.cells
  have hlt0 := HM.out.hb.lt
  have hlt1 := HM.out.mb.lt
  go_wp2_with fail
  refine (refReady_any la ra da nl lc nr rc nd dc s0 s1 s2 s3 d XR D W (HM.out.F.rdyAt HN.out.2.2.2.1 (by omega))).mono ?_
  rintro e w1 ⟨rfl, hb2⟩
  have HM1 : Hid (HearMid R' w w1 w.heap.size 5 d hs (.slice ma nm cm) la nl lc Y ra nr rc XR da nd dc L s0 s1 s2 s3 D dn) := HM.out.below hb2
  clear q0 q1 q2 q3 q4 q5 q6 r0 r1 r3 hlt hlt0 hlt1 HM hb2
  cases hz2 : hasD D d
  · have HGa : Hid (hearL L 5 d l = L) := by
      refine hearL_none ?_
      rw [HN.out.2.2.2.2.2.2]
      unfold hearR
      simp [hz2]
    clear hz2
    have HG : Hid (hearL L 5 d l = L ∧ houseB L = ((s0, s1, s2, s3), D, dn) ∧ hearM L me 5 d l = []) := by
      refine ⟨HGa.out, HN.out.2.2.2.2.2.2, ?_⟩
      unfold hearM hearS
      rw [if_neg (by decide), if_neg (by decide)]
      rfl
    obtain ⟨⟨q0, q1, q2, q3, q4, q5, q6⟩, ⟨r0, r1, r3⟩, hlt⟩ := HM1.out.cells
    have hlt0 := HM1.out.hb.lt
    have hlt1 := HM1.out.mb.lt
    obtain ⟨⟨z0, z1, z2, z3, z4, z5, z6⟩, ⟨y0, y1, y2, y3, y4, y5, y6⟩⟩ := zcells HM1.out.zb
    go_wp2_with fail
    obtain ⟨hV, hB, hZ, -⟩ := HM1.out.fin HRR.out.1 HRR.out.2.2.1 (Nat.le_refl _)
    have HF : Hid _ := And.intro hV hB
    have e0 := hZ.cell 0
    have e1 := hZ.cell 1
    have e2 := hZ.cell 2
    have e3 := hZ.cell 3
    have e4 := hZ.cell 4
    have e5 := hZ.cell 5
    have e6 := hZ.cell 6
    simp only [List.getElem?_toArray, List.getElem?_cons_zero, List.getElem?_cons_succ] at e0 e1 e2 e3 e4 e5 e6
    clear q0 q1 q2 q3 q4 q5 q6 r0 r1 r3 hlt hlt0 hlt1 z0 z1 z2 z3 z4 z5 z6 y0 y1 y2 y3 y4 y5 y6 hV hB hZ
    generalize (((((((w1.setCell ⟨w.heap.size + 1 + 1, 0, none⟩ (.slice la nl lc)).setCell ⟨w.heap.size + 1 + 1, 1, none⟩ (.int .i64 s0)).setCell ⟨w.heap.size + 1 + 1, 2, none⟩ (.int .i64 s1)).setCell ⟨w.heap.size + 1 + 1, 3, none⟩ (.int .i64 s2)).setCell ⟨w.heap.size + 1 + 1, 4, none⟩ (.int .i64 s3)).setCell ⟨w.heap.size + 1 + 1, 5, none⟩ (.slice ra nr rc)).setCell ⟨w.heap.size + 1 + 1, 6, none⟩ (.slice da nd dc)) = Z at *
    refine bodyPost_ret (v := .tuple #[.agg #[.slice la nl lc, .int .i64 s0, .int .i64 s1, .int .i64 s2, .int .i64 s3, .slice ra nr rc, .slice da nd dc], .slice none 0 0]) ?_ rfl ⟨_, _, rfl, by rw [HG.out.1, HG.out.2.1]; exact HF.out.1, by rw [HG.out.2.2]; exact MsgsV.nil _ _, HF.out.2⟩
    simp [results, Try.results10, go_sem, e0, e1, e2, e3, e4, e5, e6]
  · have HRc : Hid (hearR ((s0, s1, s2, s3), D, dn) 5 d l = some (3, d, [])) := by
      show _ = _
      unfold hearR
      simp [hz2]
    have HGa : Hid (hearL L 5 d l = L ++ [(3, d, [])]) := hearL_some (by rw [HN.out.2.2.2.2.2.2]; exact HRc.out)
    clear hz2
    obtain ⟨⟨q0, q1, q2, q3, q4, q5, q6⟩, ⟨r0, r1, r3⟩, hlt⟩ := HM1.out.cells
    have hlt0 := HM1.out.hb.lt
    have hlt1 := HM1.out.mb.lt
    obtain ⟨wa, wb, hu1, hu2, hlk, hbm⟩ := kindMap w1 5 (by decide)
    have hlk' : (Instr.lookup 76 (.map (some w1.heap.size)) (.int .i64 5) false).run Try.prog wb = .ok (.int .i64 3) wb := hlk
    have HM2 : Hid (HearMid R' w wb w.heap.size 5 d hs (.slice ma nm cm) la nl lc Y ra nr rc XR da nd dc L s0 s1 s2 s3 D dn) := HM1.out.below hbm
    obtain ⟨-, ⟨p0, p1, -⟩, -⟩ := HM2.out.cells
    clear hlk hbm
    have hmm := @run_makeMap Try.prog
    go_wp2_with fail
    clear hmm hu1 hu2 hlk' p0 p1 HM1
    refine (refNote_any R' la ra da nl lc nr rc nd dc s0 s1 s2 s3 Y 3 d none 0 0 [] wb (fun b hb => by have h1 := HRR.out.2.2.2.1 b hb; have h2 := HM2.out.zb.lt; omega) HM2.out.F.ln rfl (by rw [HM2.out.F.says]; exact HN.out.2.2.2.2.2.1 _ HRc.out) HM2.out.F.log HM2.out.F.parts (PartsR.nil _ _ _)).mono ?_
    rintro e w3 ⟨v3, rfl, hV3, hb3⟩
    have HM3 : Hid (HearMid R' w w3 w.heap.size 5 d hs (.slice ma nm cm) la nl lc Y ra nr rc XR da nd dc L s0 s1 s2 s3 D dn) := HM2.out.below hb3
    rw [HM2.out.F.says] at hV3
    clear q0 q1 q2 q3 q4 q5 q6 r0 r1 r3 hlt hlt0 hlt1 HM2 hb3
    generalize hh2 : houseB (L ++ [((3 : Int), d, ([] : List P3))]) = hx2 at *
    have HH2 : Hid (houseB (L ++ [((3 : Int), d, ([] : List P3))]) = hx2) := hh2
    clear hh2
    obtain ⟨⟨t0, t1, t2, t3⟩, D2, dn2⟩ := hx2
    obtain ⟨la2, nl2, lc2, Y2, ra2, nr2, rc2, XR2, da2, nd2, dc2, rfl, hF3⟩ := hV3
    have HM4 : Hid _ := HM3.out.put (lc2 := lc2) (rc2 := rc2) (dc2 := dc2) hF3 HRR.out.2.1 (Nat.le_refl _)
    clear hF3
    obtain ⟨⟨z0, z1, z2, z3, z4, z5, z6⟩, ⟨y0, y1, y2, y3, y4, y5, y6⟩⟩ := zcells HM3.out.hb
    have HG : Hid (hearL L 5 d l = L ++ [(3, d, [])] ∧ houseB (L ++ [((3 : Int), d, ([] : List P3))]) = ((t0, t1, t2, t3), D2, dn2) ∧ hearM L me 5 d l = []) := by
      refine ⟨HGa.out, HH2.out, ?_⟩
      unfold hearM hearS
      rw [if_neg (by decide), if_neg (by decide)]
      rfl
    go_upto_region 17 with fail
    clear z0 z1 z2 z3 z4 z5 z6 y0 y1 y2 y3 y4 y5 y6
    generalize (((((((w3.setCell ⟨w.heap.size, 0, none⟩ (.slice la2 nl2 lc2)).setCell ⟨w.heap.size, 1, none⟩ (.int .i64 t0)).setCell ⟨w.heap.size, 2, none⟩ (.int .i64 t1)).setCell ⟨w.heap.size, 3, none⟩ (.int .i64 t2)).setCell ⟨w.heap.size, 4, none⟩ (.int .i64 t3)).setCell ⟨w.heap.size, 5, none⟩ (.slice ra2 nr2 rc2)).setCell ⟨w.heap.size, 6, none⟩ (.slice da2 nd2 dc2)) = w4 at *
    obtain ⟨⟨q0, q1, q2, q3, q4, q5, q6⟩, ⟨r0, r1, r3⟩, hlt⟩ := HM4.out.cells
    have hlt0 := HM4.out.hb.lt
    have hlt1 := HM4.out.mb.lt
    obtain ⟨⟨z0, z1, z2, z3, z4, z5, z6⟩, ⟨y0, y1, y2, y3, y4, y5, y6⟩⟩ := zcells HM4.out.zb
    go_wp2_with fail
    obtain ⟨hV, hB, hZ, -⟩ := HM4.out.fin HRR.out.1 HRR.out.2.2.1 (Nat.le_refl _)
    have HF : Hid _ := And.intro hV hB
    have e0 := hZ.cell 0
    have e1 := hZ.cell 1
    have e2 := hZ.cell 2
    have e3 := hZ.cell 3
    have e4 := hZ.cell 4
    have e5 := hZ.cell 5
    have e6 := hZ.cell 6
    simp only [List.getElem?_toArray, List.getElem?_cons_zero, List.getElem?_cons_succ] at e0 e1 e2 e3 e4 e5 e6
    clear q0 q1 q2 q3 q4 q5 q6 r0 r1 r3 hlt hlt0 hlt1 z0 z1 z2 z3 z4 z5 z6 y0 y1 y2 y3 y4 y5 y6 hV hB hZ
    generalize (((((((w4.setCell ⟨w.heap.size + 1 + 1, 0, none⟩ (.slice la2 nl2 lc2)).setCell ⟨w.heap.size + 1 + 1, 1, none⟩ (.int .i64 t0)).setCell ⟨w.heap.size + 1 + 1, 2, none⟩ (.int .i64 t1)).setCell ⟨w.heap.size + 1 + 1, 3, none⟩ (.int .i64 t2)).setCell ⟨w.heap.size + 1 + 1, 4, none⟩ (.int .i64 t3)).setCell ⟨w.heap.size + 1 + 1, 5, none⟩ (.slice ra2 nr2 rc2)).setCell ⟨w.heap.size + 1 + 1, 6, none⟩ (.slice da2 nd2 dc2)) = Z at *
    refine bodyPost_ret (v := .tuple #[.agg #[.slice la2 nl2 lc2, .int .i64 t0, .int .i64 t1, .int .i64 t2, .int .i64 t3, .slice ra2 nr2 rc2, .slice da2 nd2 dc2], .slice none 0 0]) ?_ rfl ⟨_, _, rfl, by rw [HG.out.1, HG.out.2.1]; exact HF.out.1, by rw [HG.out.2.2]; exact MsgsV.nil _ _, HF.out.2⟩
    simp [results, Try.results10, go_sem, e0, e1, e2, e3, e4, e5, e6]

set_option maxRecDepth 20000 in
set_option maxHeartbeats 4000000 in
theorem refHear0_any (R : Nat → Prop) (v : Value) (L : List R3) (me k d hs : Int) (ma : Option Addr) (nm cm : Nat) (l : List P3) (w : World) (k1 : k ≠ 1) (k4 : k ≠ 4) (k5 : k ≠ 5) (hR : ∀ b, R b → b < w.heap.size) (hv : HouseV R w v L (houseB L)) (hnm : nm = l.length) (hq : PartsR R w ma l) (hok : OkP l) (hL : OkL L) (hLl : L.length * 40 ≤ 140737488355328) (hwi : Within 2199023255552 (houseB L).1) (hC : ∀ r, hearR (houseB L) k d l = some r → CalcL (L ++ [r])) :
    Calls Try.prog 10 #[v, .int .i64 me, .agg #[.int .i64 k, .int .i64 d, .int .i64 hs, .slice ma nm cm]] w fun e w' => ∃ v' sv, e = .returned (.tuple #[v', sv]) ∧ HouseV R w' v' (hearL L k d l) (houseB (hearL L k d l)) ∧ MsgsV R w' sv (hearM L me k d l) ∧ Below w.heap.size w w' := by
  obtain ⟨R1, g1, g2, g3, g4, -⟩ := more_R R hR (M := w.heap.size) (Nat.le_refl _)
  obtain ⟨R', f1, f2, f3, f4, -⟩ := more_R R1 g4 (M := w.heap.size + 1 + 1) (by omega)
  have hRR : ∀ b, R' b → R b ∨ w.heap.size ≤ b := fun b hb => by
    rcases f3 b hb with h | h
    · exact g3 b h
    · right; omega
  have hinv := houseB_inv hL
  obtain ⟨la, nl, lc, Y, ra, nr, rc, XR, da, nd, dc, rfl, hF⟩ := hv
  generalize hhb : houseB L = hx at *
  obtain ⟨⟨s0, s1, s2, s3⟩, D, dn⟩ := hx
  have HN : Hid (nm = l.length ∧ PartsR R' w ma l ∧ OkP l ∧ HInv L.length ((s0, s1, s2, s3), D, dn) ∧ Within 2199023255552 (s0, s1, s2, s3) ∧ (∀ r, hearR ((s0, s1, s2, s3), D, dn) k d l = some r → CalcL (L ++ [r])) ∧ houseB L = ((s0, s1, s2, s3), D, dn)) := ⟨hnm, hq.wide hRR, hok, hinv, hwi, hC, hhb⟩
  have HRR : Hid ((∀ b, R b → R' b) ∧ R' w.heap.size ∧ R' (w.heap.size + 1 + 1) ∧ (∀ b, R' b → b < w.heap.size + 1 + 1 + 1) ∧ (∀ b, R b → b < w.heap.size)) := ⟨fun b hb => f1 b (g1 b hb), f1 _ g2, f2, f4, hR⟩
  have hF' := hF.wide hRR
  have hdl : dn.length ≤ 9223372036854775807 := by have := hinv.done; simp at this; omega
  have hbX := below3 w (.cells #[.slice la nl lc, .int .i64 s0, .int .i64 s1, .int .i64 s2, .int .i64 s3, .slice ra nr rc, .slice da nd dc] 31) (.cells #[.int .i64 k, .int .i64 d, .int .i64 hs, .slice ma nm cm] 25) (.cells #[.slice none 0 0, .int .i64 0, .int .i64 0, .int .i64 0, .int .i64 0, .slice none 0 0, .slice none 0 0] 31)
  have hM : HearMid R' w (((w.alloc (.cells #[.slice la nl lc, .int .i64 s0, .int .i64 s1, .int .i64 s2, .int .i64 s3, .slice ra nr rc, .slice da nd dc] 31)).alloc (.cells #[.int .i64 k, .int .i64 d, .int .i64 hs, .slice ma nm cm] 25)).alloc (.cells #[.slice none 0 0, .int .i64 0, .int .i64 0, .int .i64 0, .int .i64 0, .slice none 0 0, .slice none 0 0] 31)) w.heap.size k d hs (.slice ma nm cm) la nl lc Y ra nr rc XR da nd dc L s0 s1 s2 s3 D dn := ⟨((Blk.new w _ _).alloc _).alloc _, Blk.alloc (heap2 _ _ _) _, heap3a _ _ _ _ rfl, hF'.below hbX, hbX⟩
  clear hnm hq hok hinv hwi hC hF hF' g1 g2 g3 g4 f1 f2 f3 f4 hRR hhb hbX hL hR
  have k1x : (k == 1) = false := by simpa using k1
  have k4x : (k == 4) = false := by simpa using k4
  have k5x : (k == 5) = false := by simpa using k5
  have HG : Hid (hearL L k d l = L ∧ houseB L = ((s0, s1, s2, s3), D, dn) ∧ hearM L me k d l = []) := by
    refine ⟨hearL_none ?_, HN.out.2.2.2.2.2.2, ?_⟩
    · unfold hearR
      rw [if_neg k1, if_neg k4, if_neg k5]
    · unfold hearM hearS
      rw [if_neg k1, if_neg k4]
      rfl
  clear k1 k4 k5
  go_enter Try.func10, Try.ntmps10
  go_upto_region 4 with fail
  generalize (((w.alloc (.cells #[.slice la nl lc, .int .i64 s0, .int .i64 s1, .int .i64 s2, .int .i64 s3, .slice ra nr rc, .slice da nd dc] 31)).alloc (.cells #[.int .i64 k, .int .i64 d, .int .i64 hs, .slice ma nm cm] 25)).alloc (.cells #[.slice none 0 0, .int .i64 0, .int .i64 0, .int .i64 0, .int .i64 0, .slice none 0 0, .slice none 0 0] 31)) = W at *
  have HM : Hid (HearMid R' w W w.heap.size k d hs (.slice ma nm cm) la nl lc Y ra nr rc XR da nd dc L s0 s1 s2 s3 D dn) := hM
  clear hM
  obtain ⟨⟨q0, q1, q2, q3, q4, q5, q6⟩, ⟨r0, r1, r3⟩, hlt⟩ := HM.out.cells
  have hlt0 := HM.out.hb.lt
  have hlt1 := HM.out.mb.lt
  obtain ⟨⟨z0, z1, z2, z3, z4, z5, z6⟩, ⟨y0, y1, y2, y3, y4, y5, y6⟩⟩ := zcells HM.out.zb
  go_wp2_with fail
  obtain ⟨hV, hB, hZ, -⟩ := HM.out.fin HRR.out.1 HRR.out.2.2.1 (Nat.le_refl _)
  have HF : Hid _ := And.intro hV hB
  have e0 := hZ.cell 0
  have e1 := hZ.cell 1
  have e2 := hZ.cell 2
  have e3 := hZ.cell 3
  have e4 := hZ.cell 4
  have e5 := hZ.cell 5
  have e6 := hZ.cell 6
  simp only [List.getElem?_toArray, List.getElem?_cons_zero, List.getElem?_cons_succ] at e0 e1 e2 e3 e4 e5 e6
  clear q0 q1 q2 q3 q4 q5 q6 r0 r1 r3 hlt hlt0 hlt1 z0 z1 z2 z3 z4 z5 z6 y0 y1 y2 y3 y4 y5 y6 hV hB hZ
  generalize (((((((W.setCell ⟨w.heap.size + 1 + 1, 0, none⟩ (.slice la nl lc)).setCell ⟨w.heap.size + 1 + 1, 1, none⟩ (.int .i64 s0)).setCell ⟨w.heap.size + 1 + 1, 2, none⟩ (.int .i64 s1)).setCell ⟨w.heap.size + 1 + 1, 3, none⟩ (.int .i64 s2)).setCell ⟨w.heap.size + 1 + 1, 4, none⟩ (.int .i64 s3)).setCell ⟨w.heap.size + 1 + 1, 5, none⟩ (.slice ra nr rc)).setCell ⟨w.heap.size + 1 + 1, 6, none⟩ (.slice da nd dc)) = Z at *
  refine bodyPost_ret (v := .tuple #[.agg #[.slice la nl lc, .int .i64 s0, .int .i64 s1, .int .i64 s2, .int .i64 s3, .slice ra nr rc, .slice da nd dc], .slice none 0 0]) ?_ rfl ⟨_, _, rfl, by rw [HG.out.1, HG.out.2.1]; exact HF.out.1, by rw [HG.out.2.2]; exact MsgsV.nil _ _, HF.out.2⟩
  simp [results, Try.results10, go_sem, e0, e1, e2, e3, e4, e5, e6]

theorem refHear_any (R : Nat → Prop) (v : Value) (L : List R3) (me k d hs : Int) (ma : Option Addr) (nm cm : Nat) (l : List P3) (w : World) (hR : ∀ b, R b → b < w.heap.size) (hv : HouseV R w v L (houseB L)) (hnm : nm = l.length) (hq : PartsR R w ma l) (hok : OkP l) (hL : OkL L) (hLl : L.length * 40 ≤ 140737488355328) (hwi : Within 2199023255552 (houseB L).1) (hC : ∀ r, hearR (houseB L) k d l = some r → CalcL (L ++ [r])) :
    Calls Try.prog 10 #[v, .int .i64 me, .agg #[.int .i64 k, .int .i64 d, .int .i64 hs, .slice ma nm cm]] w fun e w' => ∃ v' sv, e = .returned (.tuple #[v', sv]) ∧ HouseV R w' v' (hearL L k d l) (houseB (hearL L k d l)) ∧ MsgsV R w' sv (hearM L me k d l) ∧ Below w.heap.size w w' := by
  by_cases k1 : k = 1
  · subst k1; exact refHear1_any R v L me d hs ma nm cm l w hR hv hnm hq hok hL hLl hwi hC
  · by_cases k4 : k = 4
    · subst k4; exact refHear4_any R v L me d hs ma nm cm l w hR hv hnm hq hok hL hLl hwi hC
    · by_cases k5 : k = 5
      · subst k5; exact refHear5_any R v L me d hs ma nm cm l w hR hv hnm hq hok hL hLl hwi hC
      · exact refHear0_any R v L me k d hs ma nm cm l w k1 k4 k5 hR hv hnm hq hok hL hLl hwi hC

end Go.Proofs.Ytikmnaegalmfeaa
