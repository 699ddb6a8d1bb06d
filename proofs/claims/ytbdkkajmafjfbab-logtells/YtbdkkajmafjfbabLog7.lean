/- What log.Head does, called at a log that lies in memory. -/
import Derived.Test.YtbdkkajmafjfbabLog4
import Derived.Test.YtbdkkajmafjfbabLog5
namespace Go.Proofs.Ytbdkkajmafjfbab
open Go.RowKit
attribute [local go_sem ↓] Go.wp_at_zero Go.wp_at_succ

theorem infoOpen : (Try.prog.info? 79).map (fun i => (i.zero, i.size, i.bytes)) = some (some (.agg #[.int .i64 0, .slice none 0 0, .bool false, .slice none 0 0]), 4, 64) := by kernel_rfl
/-- Open deeds lie in memory, with their parts. -/
def OpensAt (w : World) (a : Option Addr) (X : List XD) : Prop := RowAt 4 encO w a X ∧ ∀ x ∈ X, PartsAt w x.2.1.1 x.2.2
theorem OpensAt.below {w w' : World} {a : Option Addr} {X : List XD} (h : OpensAt w a X) (hb : Below w.heap.size w w') : OpensAt w' a X := ⟨h.1.below hb, fun x hx => (h.2 x hx).below hb⟩
theorem OpensAt.get {w : World} {a : Option Addr} {X : List XD} (h : OpensAt w a X) {k : Nat} (hk : k < X.length) : ∃ b o, a = some ⟨b, o, none⟩ ∧ b < w.heap.size ∧ w.cell? ⟨b, o + k * 4, none⟩ = some (.int .i64 X[k].1) ∧
    w.cell? ⟨b, o + k * 4 + 1, none⟩ = some (.slice X[k].2.1.1 X[k].2.2.length X[k].2.1.2) ∧ w.cell? ⟨b, o + k * 4 + 2, none⟩ = some (.bool true) ∧ w.cell? ⟨b, o + k * 4 + 3, none⟩ = some (.slice none 0 0) ∧ PartsAt w X[k].2.1.1 X[k].2.2 := by
  rcases h.1 with rfl | ⟨b, o, rfl, hlt, hc⟩
  · simp at hk
  · exact ⟨b, o, rfl, hlt, hc k hk 0 _ rfl, hc k hk 1 _ rfl, hc k hk 2 _ rfl, hc k hk 3 _ rfl, h.2 _ (List.getElem_mem hk)⟩
/-- A head as a value: its log, and what the log made. -/
def HeadAt (w : World) (v : Value) (L : List R3) (g : Int × List D2) : Prop :=
  ∃ (la : Option Addr) (nl lc : Nat) (Y : List XL) (oa : Option Addr) (no oc : Nat) (XO : List XD),
    v = .agg #[.slice la nl lc, .int .i64 g.1, .int .i64 0, .slice oa no oc] ∧ (nl = L.length ∧ Y.map stripL = L ∧ RecsAt w la Y) ∧ (no = XO.length ∧ XO.map stripD = g.2 ∧ OpensAt w oa XO)
theorem HeadAt.below {w w' : World} {v : Value} {L : List R3} {g : Int × List D2} (hh : HeadAt w v L g) (hb : Below w.heap.size w w') : HeadAt w' v L g := by
  obtain ⟨la, nl, lc, Y, oa, no, oc, XO, hv, ⟨h1, h2, h3⟩, h4, h5, h6⟩ := hh
  exact ⟨la, nl, lc, Y, oa, no, oc, XO, hv, ⟨h1, h2, h3.below hb⟩, h4, h5, h6.below hb⟩
/-- On the way: block B holds the head g, whose log is the slice lv; what it has lies from base on. -/
def GAt (B base : Nat) (lv : Value) (w : World) (g : Int × List D2) : Prop :=
  ∃ (oa : Option Addr) (no oc : Nat) (XO : List XD),
    Blk w B #[lv, .int .i64 g.1, .int .i64 0, .slice oa no oc] 58 ∧ OwnL 79 4 encO w base (.slice oa no oc) XO ∧ (∀ x ∈ XO, PartsT w x.2.1.1 x.2.2) ∧ XO.map stripD = g.2
theorem GAt.below {B base : Nat} {lv : Value} {w w' : World} {g : Int × List D2} (hh : GAt B base lv w g) (hb : Below w.heap.size w w') : GAt B base lv w' g := by
  obtain ⟨oa, no, oc, XO, h1, h2, h3, h4⟩ := hh
  exact ⟨oa, no, oc, XO, h1.below hb h1.lt, h2.below hb (Nat.le_refl _), fun x hx => (h3 x hx).calm (Calm.below hb (Nat.le_refl _)), h4⟩
theorem GAt.put3 {B base : Nat} {lv old : Value} {w : World} {t : Int} {a : Option Addr} {n c : Nat} {XO : List XD} (hB : Blk w B #[lv, .int .i64 t, .int .i64 0, old] 58) (hR : OwnL 79 4 encO w base (.slice a n c) XO) (hT : ∀ x ∈ XO, PartsT w x.2.1.1 x.2.2) :
    GAt B base lv (w.setCell ⟨B, 3, none⟩ (.slice a n c)) (t, XO.map stripD) :=
  ⟨a, n, c, XO, hB.set 3 _, hR.setOther (a := ⟨B, 3, none⟩) hB (by decide) _, fun x hx => (hT x hx).calm (Calm.setCell (a := ⟨B, 3, none⟩) hB (by decide) _), rfl⟩
theorem GAt.put1 {B base : Nat} {lv old : Value} {w : World} {t : Int} {a : Option Addr} {n c : Nat} {XO : List XD} (hB : Blk w B #[lv, old, .int .i64 0, .slice a n c] 58) (hR : OwnL 79 4 encO w base (.slice a n c) XO) (hT : ∀ x ∈ XO, PartsT w x.2.1.1 x.2.2) :
    GAt B base lv (w.setCell ⟨B, 1, none⟩ (.int .i64 t)) (t, XO.map stripD) :=
  ⟨a, n, c, XO, hB.set 1 _, hR.setOther (a := ⟨B, 1, none⟩) hB (by decide) _, fun x hx => (hT x hx).calm (Calm.setCell (a := ⟨B, 1, none⟩) hB (by decide) _), rfl⟩
theorem gstep_other {g : Int × List D2} {r : R3} (h1 : ¬ r.1 = 4) (h2 : ¬ r.1 = 5) (h3 : ¬ r.1 = 6) : gstep g r = g := by unfold gstep; rw [if_neg h1, if_neg h2, if_neg h3]
theorem fill4 {w : World} {N : Nat} {T : TypeId} {c0 c1 c2 c3 : Value} (hb : Blk w N #[c0, c1, c2, c3] T) (v0 v1 v2 v3 : Value) :
    Blk ((((w.setCell ⟨N, 0, none⟩ v0).setCell ⟨N, 1, none⟩ v1).setCell ⟨N, 2, none⟩ v2).setCell ⟨N, 3, none⟩ v3) N #[v0, v1, v2, v3] T ∧ Only T w ((((w.setCell ⟨N, 0, none⟩ v0).setCell ⟨N, 1, none⟩ v1).setCell ⟨N, 2, none⟩ v2).setCell ⟨N, 3, none⟩ v3) := by
  have b0 : Blk (w.setCell ⟨N, 0, none⟩ v0) N #[v0, c1, c2, c3] T := hb.set 0 v0
  have b1 : Blk ((w.setCell ⟨N, 0, none⟩ v0).setCell ⟨N, 1, none⟩ v1) N #[v0, v1, c2, c3] T := b0.set 1 v1
  have b2 : Blk (((w.setCell ⟨N, 0, none⟩ v0).setCell ⟨N, 1, none⟩ v1).setCell ⟨N, 2, none⟩ v2) N #[v0, v1, v2, c3] T := b1.set 2 v2
  have b3 : Blk ((((w.setCell ⟨N, 0, none⟩ v0).setCell ⟨N, 1, none⟩ v1).setCell ⟨N, 2, none⟩ v2).setCell ⟨N, 3, none⟩ v3) N #[v0, v1, v2, v3] T := b2.set 3 v3
  exact ⟨b3, (((Only.setCell (a := ⟨N, 0, none⟩) hb v0).trans (Only.setCell (a := ⟨N, 1, none⟩) b0 v1)).trans (Only.setCell (a := ⟨N, 2, none⟩) b1 v2)).trans (Only.setCell (a := ⟨N, 3, none⟩) b2 v3)⟩

set_option maxRecDepth 20000 in
set_option maxHeartbeats 2000000 in
theorem head_any (a : Option Addr) (X : List XL) (cap n : Nat) (w : World) (hn : n = X.length) (hl : X.length ≤ 1000) (hok : OkL (X.map stripL)) (hp : RecsAt w a X) :
    Calls Try.prog 24 #[.slice a n cap] w fun e w' => ∃ v, e = .returned v ∧ HeadAt w' v (X.map stripL) (headB (X.map stripL)) ∧ Below w.heap.size w w' := by
  have HO := own_any a X cap n (w.alloc (.cells #[.slice none 0 0, .int .i64 0, .int .i64 0, .slice none 0 0] 58)) hn hl hok (hp.below (below1 w _))
  have HN : Hid (n = X.length ∧ OkL (X.map stripL) ∧ RecsAt w a X) := ⟨hn, hok, hp⟩
  have hnl : n ≤ 1000 := by omega
  clear hn hok hp
  go_enter Try.func24, Try.ntmps24
  go_wp2_with fail
  refine HO.mono ?_
  rintro e w1 ⟨la, lc, Y, rfl, hY, hlog, hb1⟩
  have hbw1 : Below w.heap.size w w1 := (below1 w _).trans (hb1.mono (by simp))
  have hres : Blk w1 w.heap.size #[.slice none 0 0, .int .i64 0, .int .i64 0, .slice none 0 0] 58 := (Blk.new w _ _).below hb1 (by simp)
  have H1 : Hid (Y.map stripL = X.map stripL ∧ RecsO w1 (w.heap.size + 1) (.slice la n lc) Y ∧ Below w.heap.size w w1 ∧ Blk w1 w.heap.size #[.slice none 0 0, .int .i64 0, .int .i64 0, .slice none 0 0] 58 ∧ w.heap.size < w1.heap.size) := ⟨hY, by simpa using hlog, hbw1, hres, hres.lt⟩
  have hs1 : w.heap.size < w1.heap.size := hres.lt
  clear HO hY hlog hb1 hbw1 hres
  go_wp2
  go_loopw [13] (fun i w' => ∃ k : Nat, k ≤ n ∧ i = .int .i64 k ∧ Hid (GAt w1.heap.size w1.heap.size (.slice la n lc) w' (headB ((X.take k).map stripL)) ∧ Below w1.heap.size w1 w')) (fun i _ => n - (intOf i).toNat)
  case atStart => exact ⟨0, Nat.zero_le _, rfl, ⟨none, 0, 0, [], Blk.new _ _ _, OwnL.nil _ _, (fun x hx => by cases hx), rfl⟩, below1 _ _⟩
  case round =>
    obtain ⟨k, hk, rfl, hH⟩ := hrel
    by_cases hlt : k < n
    · have hkX : k < X.length := by have := HN.out.1; omega
      have hbw : Below w.heap.size w wr := H1.out.2.2.1.trans (hH.out.2.mono (by omega))
      obtain ⟨b, o, rfl, hb, c0, c1, c2, hq⟩ := (HN.out.2.2.below hbw).get hkX
      have hokk := okL_get HN.out.2.1 hkX
      have HS : Hid (headB ((X.take (k + 1)).map stripL) = gstep (headB ((X.take k).map stripL)) (stripL X[k])) := by show _ = _; rw [map_take_succ hkX, headB_snoc]
      have hinv := headB_inv ((X.take k).map stripL)
      rw [List.length_map, List.length_take, Nat.min_eq_left (by omega)] at hinv
      obtain ⟨hHA, hB1⟩ := hH.out
      generalize headB ((X.take k).map stripL) = h at *
      obtain ⟨t, DD⟩ := h
      obtain ⟨oa, no, oc, XO, hB, hR, hT, hD⟩ := hHA
      simp only at hB hD hinv
      generalize X[k] = x at *
      obtain ⟨kd, dd, ⟨ax, cx⟩, l⟩ := x
      simp only at c0 c1 c2 hq hokk
      have hXl : XO.length ≤ 1000 := by
        have h1 := hinv.2.2
        rw [← hD] at h1
        simp at h1
        omega
      obtain ⟨hi1, hi2, _⟩ := hinv
      have ht : 0 ≤ t ∧ t ≤ 1000 := ⟨hi1, by omega⟩
      clear hi1 hi2
      obtain ⟨ht0, ht1⟩ := ht
      have z1 := hB.cell 1
      have z3 := hB.cell 3
      have f1 := hB.free 1
      have f3 := hB.free 3
      simp at z1 z3
      have hsr := hB1.size
      have hBlt : w1.heap.size < wr.heap.size := hB.lt
      have HA : Hid (Blk wr w1.heap.size #[.slice la n lc, .int .i64 t, .int .i64 0, .slice oa no oc] 58 ∧ OwnL 79 4 encO wr w1.heap.size (.slice oa no oc) XO ∧ (∀ x ∈ XO, PartsT wr x.2.1.1 x.2.2) ∧ XO.map stripD = DD ∧ PartsAt wr ax l ∧ OkP l ∧ Below w1.heap.size w1 wr) := ⟨hB, hR, hT, hD, hq, hokk, hB1⟩
      generalize hll : l.length = nl at *
      have HLL : Hid (l.length = nl) := hll
      clear hq hokk hB hR hT hD hH hll hB1
      have HX : Hid (Below wr.heap.size wr (wr.alloc (.cells #[.int .i64 kd, .int .i64 dd, .slice ax nl cx] 45))) := below1 _ _
      have HB : Hid (Below w1.heap.size w1 (wr.alloc (.cells #[.int .i64 kd, .int .i64 dd, .slice ax nl cx] 45))) := HA.out.2.2.2.2.2.2.trans (HX.out.mono hsr)
      have hB2 := HA.out.1.below HX.out hBlt
      have hR2 := HA.out.2.1.below HX.out (Nat.le_refl _)
      have hT2 : ∀ x ∈ XO, PartsT (wr.alloc (.cells #[.int .i64 kd, .int .i64 dd, .slice ax nl cx] 45)) x.2.1.1 x.2.2 := fun x hx => (HA.out.2.2.1 x hx).calm (Calm.below HX.out (Nat.le_refl _))
      by_cases k1 : kd = 4
      · subst k1
        have HE : Hid (gstep (t, DD) (stripL (4, dd, (ax, cx), l)) = (t + 1, DD)) := rfl
        have HF : Hid (GAt w1.heap.size w1.heap.size (.slice la n lc) ((wr.setCell ⟨w1.heap.size, 1, none⟩ (.int .i64 (t + 1))).alloc (.cells #[.int .i64 4, .int .i64 dd, .slice ax nl cx] 45)) (t + 1, DD)) := by
          have := (GAt.put1 (t := t + 1) HA.out.1 HA.out.2.1 HA.out.2.2.1).below (below1 _ (.cells #[.int .i64 4, .int .i64 dd, .slice ax nl cx] 45))
          rw [HA.out.2.2.2.1] at this
          exact this
        have hBf : Hid (Below w1.heap.size w1 ((wr.setCell ⟨w1.heap.size, 1, none⟩ (.int .i64 (t + 1))).alloc (.cells #[.int .i64 4, .int .i64 dd, .slice ax nl cx] 45))) := (HA.out.2.2.2.2.2.2.setCell (Nat.le_refl _) _).alloc (by simpa using hsr) _
        clear hB2 hR2 hT2
        go_wp2
        go_roundw
        case rel => exact ⟨k + 1, by omega, by go_num, by rw [HS.out, HE.out]; exact HF.out, hBf.out⟩
        case measure => simp [intOf]; omega
      · have k1' : (kd == 4) = false := by simpa using k1
        by_cases k2 : kd = 5
        · subst k2
          have HE : Hid (gstep (t, DD) (stripL (5, dd, (ax, cx), l)) = (t, DD ++ [(dd, l)])) := rfl
          have HA2 : Hid (Blk (wr.alloc (.cells #[.int .i64 5, .int .i64 dd, .slice ax nl cx] 45)) w1.heap.size #[.slice la n lc, .int .i64 t, .int .i64 0, .slice oa no oc] 58 ∧ OwnL 79 4 encO (wr.alloc (.cells #[.int .i64 5, .int .i64 dd, .slice ax nl cx] 45)) w1.heap.size (.slice oa no oc) XO ∧ (∀ x ∈ XO, PartsT (wr.alloc (.cells #[.int .i64 5, .int .i64 dd, .slice ax nl cx] 45)) x.2.1.1 x.2.2)) := ⟨hB2, hR2, hT2⟩
          clear hB2 hR2 hT2
          go_wp2_with fail
          refine (deed_any 5 dd ax l cx nl _ HLL.out.symm (by have := HA.out.2.2.2.2.2.1.1; omega) (HA.out.2.2.2.2.1.below HX.out)).mono ?_
          rintro e w3 ⟨a3, c3, rfl, ht3, hb3⟩
          have hB3 := HA2.out.1.below hb3 HA2.out.1.lt
          have hR3 := HA2.out.2.1.below hb3 (Nat.le_refl _)
          have hBB : Below w1.heap.size w1 w3 := HB.out.trans (hb3.mono (by simp; omega))
          have HA3 : Hid (Blk w3 w1.heap.size #[.slice la n lc, .int .i64 t, .int .i64 0, .slice oa no oc] 58 ∧ OwnL 79 4 encO w3 w1.heap.size (.slice oa no oc) XO ∧ (∀ x ∈ XO, PartsT w3 x.2.1.1 x.2.2) ∧ PartsT w3 a3 l ∧ Below w1.heap.size w1 w3) := ⟨hB3, hR3, fun x hx => (HA2.out.2.2 x hx).calm (Calm.below hb3 (Nat.le_refl _)), ht3, hBB⟩
          have z3' := hB3.cell 3
          simp at z3'
          have hw3 := hB3.lt
          have hw3' := hBB.size
          clear z1 z3 f1 f3 hB3 hR3 hBB ht3 hb3 c0 c1 c2 HA2
          have HD : Hid (Below w3.heap.size w3 (w3.alloc (.cells #[.int .i64 dd, .slice a3 nl c3] 33))) := below1 _ _
          go_wp2_with (at_builtin; refine wpList_append_list lenO oneO Try.underlying56 infoOpen rfl (by decide) (by decide) _ rfl _ _ rfl w1.heap.size _ XO rfl ((HA3.out.2.1.below HD.out (Nat.le_refl _)).below (below1 _ _) (Nat.le_refl _)) (some ⟨w3.heap.size + 1, 0, none⟩) 1 1 [(dd, (a3, c3), l)] rfl rfl (RowAt.one (heap2 w3 _ _) (by simp [encO, HLL.out])) (by simp; omega) (by simp; omega) ?_; intro a4 n4 c4 w4 hown4 hn4 hgrow4 hat4; clear hn4 hat4; have hK4 : Blk w4 w1.heap.size #[.slice la n lc, .int .i64 t, .int .i64 0, .slice oa no oc] 58 := ((HA3.out.1.alloc _).alloc _).keptT hgrow4 (((HA3.out.2.1.below HD.out (Nat.le_refl _)).below (below1 _ _) (Nat.le_refl _)).grownT (by decide)); have j3 := hK4.cell 3; have j3' := hK4.free 3; simp at j3; have HK4 : Hid (Blk w4 w1.heap.size #[.slice la n lc, .int .i64 t, .int .i64 0, .slice oa no oc] 58) := hK4; clear hK4)
          have hgT := (HA3.out.2.1.below HD.out (Nat.le_refl _)).below (below1 _ (.cells #[.int .i64 dd, .slice a3 nl c3, .bool true, .slice none 0 0] 79)) (Nat.le_refl _)
          have hC : Calm 41 w3 w4 := ((Calm.alloc _ _ _).trans (Calm.alloc _ _ _)).trans (Calm.grown hgrow4 (hgT.grownT (by decide)))
          have HF : Hid (GAt w1.heap.size w1.heap.size (.slice la n lc) (w4.setCell ⟨w1.heap.size, 3, none⟩ (.slice a4 n4 c4)) (t, DD ++ [(dd, l)])) := by
            have := GAt.put3 HK4.out hown4 (fun x hx => by
              rcases List.mem_append.1 hx with hx | hx
              · exact (HA3.out.2.2.1 x hx).calm hC
              · rw [List.mem_singleton.1 hx]; exact HA3.out.2.2.2.1.calm hC)
            rw [List.map_append, HA.out.2.2.2.1] at this
            exact this
          have hBf : Below w1.heap.size w1 (w4.setCell ⟨w1.heap.size, 3, none⟩ (.slice a4 n4 c4)) := (((HA3.out.2.2.2.2.trans (HD.out.mono (by omega))).alloc (by simp; omega) _).grown hgrow4 (by simp; omega) HA3.out.2.1.base).setCell (Nat.le_refl _) _
          clear hgrow4 hgT hC hown4 j3 j3' HK4
          go_wp2
          go_roundw
          case rel => exact ⟨k + 1, by omega, by go_num, by rw [HS.out, HE.out]; exact HF.out, hBf⟩
          case measure => simp [intOf]; omega
        · have k2' : (kd == 5) = false := by simpa using k2
          by_cases k3 : kd = 6
          · subst k3
            have HE : Hid (gstep (t, DD) (stripL (6, dd, (ax, cx), l)) = (t, dropD DD dd)) := rfl
            have hr2 : Blk (wr.alloc (.cells #[.int .i64 6, .int .i64 dd, .slice ax nl cx] 45)) wr.heap.size #[.int .i64 6, .int .i64 dd, .slice ax nl cx] 45 := Blk.new _ _ _
            have HA2 : Hid (Blk (wr.alloc (.cells #[.int .i64 6, .int .i64 dd, .slice ax nl cx] 45)) w1.heap.size #[.slice la n lc, .int .i64 t, .int .i64 0, .slice oa no oc] 58 ∧ OwnL 79 4 encO (wr.alloc (.cells #[.int .i64 6, .int .i64 dd, .slice ax nl cx] 45)) w1.heap.size (.slice oa no oc) XO ∧ (∀ x ∈ XO, PartsT (wr.alloc (.cells #[.int .i64 6, .int .i64 dd, .slice ax nl cx] 45)) x.2.1.1 x.2.2) ∧ Blk (wr.alloc (.cells #[.int .i64 6, .int .i64 dd, .slice ax nl cx] 45)) wr.heap.size #[.int .i64 6, .int .i64 dd, .slice ax nl cx] 45) := ⟨hB2, hR2, hT2, hr2⟩
            clear hB2 hR2 hT2 hr2
            go_wp2_with fail
            refine (deleteO_any oa XO oc no w1.heap.size wr.heap.size dd _ hXl HA2.out.2.1 HA2.out.2.2.2.lt (HA2.out.2.1.neT HA2.out.2.2.2 (by decide)) (HA2.out.2.2.2.cell 1)).mono ?_
            rintro e w6 ⟨n6, rfl, ho6, hg6⟩
            have hgT := HA2.out.2.1
            have hB6 := HA2.out.1.keptT hg6 (hgT.grownT (by decide))
            have hC6 := Calm.grown (t := 41) hg6 (hgT.grownT (by decide))
            have HF : Hid (GAt w1.heap.size w1.heap.size (.slice la n lc) (w6.setCell ⟨w1.heap.size, 3, none⟩ (.slice oa n6 oc)) (t, dropD DD dd)) := by
              have := GAt.put3 hB6 ho6 (fun x hx => (HA2.out.2.2.1 x (List.mem_filter.1 hx).1).calm hC6)
              rw [dropD_map, HA.out.2.2.2.1] at this
              exact this
            have hBf : Below w1.heap.size w1 (w6.setCell ⟨w1.heap.size, 3, none⟩ (.slice oa n6 oc)) := (HB.out.grown hg6 HB.out.size hgT.base).setCell (Nat.le_refl _) _
            have u3 := hB6.cell 3
            have g3 := hB6.free 3
            simp at u3
            clear hB6 hC6 hgT ho6 hg6 z1 z3 f1 f3
            go_wp2
            go_roundw
            case rel => exact ⟨k + 1, by omega, by go_num, by rw [HS.out, HE.out]; exact HF.out, hBf⟩
            case measure => simp [intOf]; omega
          · have k3' : (kd == 6) = false := by simpa using k3
            have HE : Hid (gstep (t, DD) (stripL (kd, dd, (ax, cx), l)) = (t, DD)) := gstep_other k1 k2 k3
            have HF : Hid (GAt w1.heap.size w1.heap.size (.slice la n lc) (wr.alloc (.cells #[.int .i64 kd, .int .i64 dd, .slice ax nl cx] 45)) (t, DD)) := ⟨oa, no, oc, XO, hB2, hR2, hT2, HA.out.2.2.2.1⟩
            clear k1 k2 k3 hB2 hR2 hT2
            go_wp2
            go_roundw
            case rel => exact ⟨k + 1, by omega, by go_num, by rw [HS.out, HE.out]; exact HF.out, HB.out⟩
            case measure => simp [intOf]; omega
    · have hkn : k = n := by omega
      have hfull : (X.take k).map stripL = X.map stripL := by rw [List.take_of_length_le (by have := HN.out.1; omega)]
      obtain ⟨hHA, hB1⟩ := hH.out
      rw [hfull] at hHA
      obtain ⟨oa, no, oc, XO, hB, hR, hT, hD⟩ := hHA
      have hN := H1.out.2.2.2.1.below hB1 H1.out.2.2.2.1.lt
      generalize hhb : headB (X.map stripL) = h at *
      have HHB : Hid (headB (X.map stripL) = h) := hhb
      clear hhb hH hfull
      obtain ⟨t, DD⟩ := h
      simp only at hB hD
      obtain ⟨hW, hOnly⟩ := fill4 hN (.slice la n lc) (.int .i64 t) (.int .i64 0) (.slice oa no oc)
      have hBW : Below w.heap.size w ((((wr.setCell ⟨w.heap.size, 0, none⟩ (.slice la n lc)).setCell ⟨w.heap.size, 1, none⟩ (.int .i64 t)).setCell ⟨w.heap.size, 2, none⟩ (.int .i64 0)).setCell ⟨w.heap.size, 3, none⟩ (.slice oa no oc)) :=
        ((((H1.out.2.2.1.trans (hB1.mono (by omega))).setCell (Nat.le_refl _) _).setCell (Nat.le_refl _) _).setCell (Nat.le_refl _) _).setCell (Nat.le_refl _) _
      have HF : Hid (HeadAt ((((wr.setCell ⟨w.heap.size, 0, none⟩ (.slice la n lc)).setCell ⟨w.heap.size, 1, none⟩ (.int .i64 t)).setCell ⟨w.heap.size, 2, none⟩ (.int .i64 0)).setCell ⟨w.heap.size, 3, none⟩ (.slice oa no oc)) (.agg #[.slice la n lc, .int .i64 t, .int .i64 0, .slice oa no oc]) (X.map stripL) (t, DD)) := by
        have hlog := H1.out.2.1.below hB1
        have hlog2 : RecsO _ _ _ _ := ⟨hlog.1.only hOnly (by decide), fun y hy => (hlog.2 y hy).calm (hOnly.calm (by decide))⟩
        have hR2 := (hR.only hOnly (by decide)).at lenO
        exact ⟨la, n, lc, Y, oa, no, oc, XO, rfl, ⟨by rw [List.length_map]; exact HN.out.1, H1.out.1, hlog2.at⟩, hR2.2.1, hD, hR2.1, fun x hx => ((hT x hx).calm (hOnly.calm (by decide))).at⟩
      have HBlk : Hid _ := And.intro hW hBW
      have b0 := hB.cell 0
      have b1 := hB.cell 1
      have b2 := hB.cell 2
      have b3 := hB.cell 3
      have n0 := hN.cell 0
      have n1 := hN.cell 1
      have n2 := hN.cell 2
      have n3 := hN.cell 3
      have f0 := hN.free 0
      have f1 := hN.free 1
      have f2 := hN.free 2
      have f3 := hN.free 3
      simp at b0 b1 b2 b3 n0 n1 n2 n3
      clear hW hBW hOnly hB hN hR hT hD
      go_wp2_with fail
      clear b0 b1 b2 b3 n0 n1 n2 n3 f0 f1 f2 f3
      have e0 := Blk.cell HBlk.out.1 0
      have e1 := Blk.cell HBlk.out.1 1
      have e2 := Blk.cell HBlk.out.1 2
      have e3 := Blk.cell HBlk.out.1 3
      simp only [List.getElem?_toArray, List.getElem?_cons_zero, List.getElem?_cons_succ] at e0 e1 e2 e3
      refine bodyPost_ret (v := .agg #[.slice la n lc, .int .i64 t, .int .i64 0, .slice oa no oc]) ?_ rfl ⟨_, rfl, by rw [HHB.out]; exact HF.out, HBlk.out.2⟩
      simp [results, Try.results24, go_sem, e0, e1, e2, e3]

end Go.Proofs.Ytbdkkajmafjfbab
