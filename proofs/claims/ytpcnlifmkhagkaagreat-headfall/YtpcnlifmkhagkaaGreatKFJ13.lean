import Derived.Test.YtpcnlifmkhagkaaGreatKFJ12
import Derived.Test.YtpcnlifmkhagkaaGreatKFJ10
set_option maxRecDepth 20000
set_option maxHeartbeats 20000000
namespace Go.Proofs.YtpcnlifmkhagkaaGreat
open Go.RowKit
open Go.Value renaming slice → G, int → E
open Go.IntKind renaming i64 → J
open _root_.Option renaming none → U
open Go.Obj renaming cells → T
open Go.RowKit renaming Hid → Q, Below → Z
open Go.World renaming setCell → r
open _root_.Nat renaming le_refl → kaa
attribute [local go_sem ↓] Go.wp_at_zero Go.wp_at_succ
def zcr (kd dd : Int) (D : List D2) : List D2 := if kd = 6 then zao D dd else D
theorem kfil_yes {kd dd : Int} {D : List D2} {j : Nat} (h : j < D.length) (hk : ¬ kd = 6 ∨ ¬ D[j].1 = dd) : zcr kd dd (D.take (j + 1)) = zcr kd dd (D.take j) ++ [D[j]] := by
 rw [zax h];unfold zcr
 split
 ·rename_i h6
  rcases hk with hk | hk
  ·exact absurd h6 hk
  ·unfold zao
   rw [List.filter_append, List.filter_cons_of_pos (by simp [hk])];rfl
 ·rfl
theorem kfil_no {dd : Int} {D : List D2} {j : Nat} (h : j < D.length) (hk : D[j].1 = dd) : zcr 6 dd (D.take (j + 1)) = zcr 6 dd (D.take j) := by
 rw [zax h];unfold zcr
 rw [if_pos rfl, if_pos rfl];unfold zao
 rw [List.filter_append, List.filter_cons_of_neg (by simp [hk])];simp
theorem zla (kd dd : Int) (D : List D2) : (zcr kd dd D).length ≤ D.length := by
 unfold zcr
 split
 ·exact List.length_filter_le _ _
 ·exact kaa _
theorem zm8 (t : Int) (D : List D2) (kd dd : Int) (l : List P3) : zdf (t, D) (kd, dd, l) = (if kd = 4 then t + 1 else t, if kd = 5 then zcr kd dd D ++ [(dd, l)] else zcr kd dd D) := by
 unfold zdf zcr
 simp only
 by_cases h4 : kd = 4
 ·simp [h4]
 ·by_cases h5 : kd = 5
  ·simp [h5]
  ·by_cases h6 : kd = 6
   ·simp [h6]
   ·simp [h4, h5, h6]
def toO (x : XD) : XO := (x.1, x.2, true, ((U, 0), []))
theorem row_toO {w : World} {a : Option Addr} {X : List XD} (h : zk 4 zb9 w a X) : zk 4 zan w a (X.map toO) := by
 rcases h with rfl | ⟨b, o, rfl, hlt, hc⟩
 ·exact Or.inl rfl
 ·refine Or.inr ⟨b, o, rfl, hlt, fun i hi j u hu => hc i (by simpa using hi) j u ?_⟩
  rw [List.getElem_map] at hu;exact hu
theorem zkt {R : Nat → Prop} {w : World} {a : Option Addr} {n cap : Nat} {Y : List XL} {L : List R3} {oa : Option Addr} {no oc : Nat} {XR : List XD} {t : Int} {DD : List D2} (hB : zac L = (t, DD)) (ln : n = Y.length) (hlog : zk 3 zak w a Y) (hlo : Out R a Y.length) (hY : Y.map zf = L) (hp : ∀ y ∈ Y, zaf R w y.2.2.1.1 y.2.2.2)
  (hno : no = XR.length) (ho : zk 4 zb9 w oa XR) (hoo : Out R oa XR.length) (hs : XR.map zaz = DD) (hT : ∀ x ∈ XR, zaf R w x.2.1.1 x.2.2) : zaa R w (.agg #[G a n cap, E J t, E J 0, G oa no oc]) (zv L) := by
 have e : zv L = ⟨L, t, 0, DD.map fun x => (x.1, x.2, true, [])⟩ := by unfold zv; rw [hB]
 rw [e];refine ⟨a, n, cap, Y, oa, no, oc, XR.map toO, rfl, ln, hlog, hlo, hY, hp, by rw [List.length_map]; exact hno, row_toO ho, by rw [List.length_map]; exact hoo, ?_, ?_⟩
 ·subst hs
  simp [toO, zw, zaz]
 ·intro x hx
  obtain ⟨y, hy, rfl⟩ := List.mem_map.1 hx;exact ⟨hT y hy, zc4.nil _ _ _⟩
def TAtR (PP : Option Addr → List P3 → Prop) (B base : Nat) (lv : Value) (w : World) (g : Int × List D2) : Prop :=
 ∃ (oa : Option Addr) (no oc : Nat) (XO : List XD),
  Blk w B #[lv, E J g.1, E J 0, G oa no oc] 29 ∧ zd 58 4 zb9 w base (G oa no oc) XO ∧ (∀ x ∈ XO, PP x.2.1.1 x.2.2) ∧ XO.map zaz = g.2
structure zjg (PP : Option Addr → List P3 → Prop) (W w' : World) (B : Nat) (hb : Array Value) (rv : Value) (rest : List XD) (D : List D2) : Prop where
 keep : Z W.heap.size W w'
 own : zd 58 4 zb9 w' W.heap.size rv rest
 parts : ∀ x ∈ rest, PP x.2.1.1 x.2.2
 says : rest.map zaz = D
 head : Blk w' B hb 29
theorem zie (PP : Option Addr → List P3 → Prop) (R : Nat → Prop) (a : Option Addr) (X : List XL) (cap n : Nat) (w : World) (hn : n = X.length) (hl : X.length ≤ 1000000) (hR : ∀ b, R b → b < w.heap.size) (hPP : ∀ a l, PP a l → zaf R w a l) (hp : zb7 w a X) (hout : Out R a X.length) (hq0 : ∀ x ∈ X, PP x.2.2.1.1 x.2.2.2) :
  Calls Tryz.prog 14 #[G a n cap] w fun e w' => ∃ v, e = .returned v ∧ zaa R w' v (zv (X.map zf)) ∧ Z w.heap.size w w' := by
 have HN := zF hn hp hq0 hR hPP hout;have hnl : n ≤ 1000000 := by omega
 clear hn hp hl hR hPP hout hq0;have hN2 : Blk ((w.alloc (T #[G U 0 0, E J 0, E J 0, G U 0 0] 29)).alloc (T #[G a n cap, E J 0, E J 0, G U 0 0] 29)) w.heap.size #[G U 0 0, E J 0, E J 0, G U 0 0] 29 := (Blk.new _ _ _).alloc _;have hN3 : Blk ((w.alloc (T #[G U 0 0, E J 0, E J 0, G U 0 0] 29)).alloc (T #[G a n cap, E J 0, E J 0, G U 0 0] 29)) (w.heap.size + 1) #[G a n cap, E J 0, E J 0, G U 0 0] 29 := zap _ _ _;have hBV := za4 w (T #[G U 0 0, E J 0, E J 0, G U 0 0] 29) (T #[G a n cap, E J 0, E J 0, G U 0 0] 29);have hsV : ((w.alloc (T #[G U 0 0, E J 0, E J 0, G U 0 0] 29)).alloc (T #[G a n cap, E J 0, E J 0, G U 0 0] 29)).heap.size = w.heap.size + 2 := by simp
 go_enter Tryz.func14, Tryz.ntmps14
 go_wp2;generalize (w.alloc (T #[G U 0 0, E J 0, E J 0, G U 0 0] 29)).alloc (T #[G a n cap, E J 0, E J 0, G U 0 0] 29) = V at *;have HV := zB hN2 hBV;go_loopw [13] (fun i w' => ∃ k : Nat, k ≤ n ∧ i = E J k ∧ Q (TAtR PP (w.heap.size + 1) (w.heap.size + 2) (G a n cap) w' (zac ((X.take k).map zf)) ∧ Z (w.heap.size + 1) V w' ∧ w.heap.size + 2 ≤ w'.heap.size)) (fun i _ => n - (intOf i).toNat)
 case atStart => exact ⟨0, Nat.zero_le _, rfl, ⟨none, 0, 0, [], hN3, zd.nil _ _, (fun x hx => by cases hx), rfl⟩, Below.refl _ _, by omega⟩
 case round =>
  clear hN2 hN3;obtain ⟨k, hk, rfl, hH⟩ := hrel;by_cases hlt : k < n
  ·have hkX : k < X.length := by have := HN.out.1; omega
   have hbw := HV.out.2.trans (hH.out.2.1.mono (by omega));obtain ⟨b, o, rfl, hb, c0, c1, c2, -⟩ := (HN.out.2.1.below hbw).get hkX;have hq := HN.out.2.2.1 _ (List.getElem_mem hkX)
   have qx : 0 ≤ (zac ((X.take k).map zf)).1 ∧ (zac ((X.take k).map zf)).1 ≤ k ∧ (zac ((X.take k).map zf)).2.length ≤ k := by
    have := zni (X.map zf) (k := k) (by simp; omega);rwa [← List.map_take] at this
   have HS : Q (zac ((X.take (k + 1)).map zf) = zdf (zac ((X.take k).map zf)) (zf X[k])) := by
    show _ = _
    rw [zhi hkX, zf3]
   obtain ⟨hRA, hBR, hsR⟩ := hH.out;clear hH;generalize zac ((X.take k).map zf) = h at *;obtain ⟨t, DD⟩ := h;obtain ⟨oa, no, oc, XR, hB, hR, hT, hD⟩ := hRA;simp only at hB hD qx
   generalize X[k] = x at *;obtain ⟨kd, dd, ⟨ax, cx⟩, l⟩ := x;have HS : Q (zac ((X.take (k + 1)).map zf) = zdf (t, DD) (kd, dd, l)) := HS;rw [zm8] at HS;simp only at c0 c1 c2 hq
   generalize hll : l.length = nl at *;have HLL := zA hll;clear hll;have hnr := (hR.at zdy).2.1
   have hnrk : no ≤ k := by
    have h2 := congrArg List.length hD;simp at h2
    omega
   have ht0 := qx.1;have ht1 : t ≤ 1000000 := by have := qx.2.1; omega
   have hDl := qx.2.2;have hW2 : Z wr.heap.size wr (wr.alloc (T #[E J kd, E J dd, G ax nl cx] 40)) := zg _ _;have hr2 : Blk (wr.alloc (T #[E J kd, E J dd, G ax nl cx] 40)) wr.heap.size #[E J kd, E J dd, G ax nl cx] 40 := Blk.new _ _ _;have hs2 : (wr.alloc (T #[E J kd, E J dd, G ax nl cx] 40)).heap.size = wr.heap.size + 1 := by simp
   have hB2 := hB.below hW2 hB.lt;have HA := zD hB2 hr2 (((hR.below hW2 (kaa _)).at zdy).1) (hBR.trans (hW2.mono (by omega)));have HP := zD hT hD hnr hq;have z3 := hB2.cell 3;simp at z3
   have hzl := hB2.lt;clear hB hR hT hD hB2 hr2 hq hnr hBR hW2 qx;go_wp2;generalize wr.alloc (T #[E J kd, E J dd, G ax nl cx] 40) = W at *;generalize hwo : wr = wo at *;clear hwo;go_loopw [6, 20] (fun rv i w' => ∃ (j : Nat) (rest : List XD), j ≤ no ∧ i = E J j ∧ Q (zjg PP W w' (w.heap.size + 1) #[G (some ⟨b, o, U⟩) n cap, E J t, E J 0, G oa no oc] rv rest (zcr kd dd (DD.take j)))) (fun _ i _ => no - (intOf i).toNat)
   case atStart => exact ⟨0, [], Nat.zero_le _, rfl, Below.refl _ _, zd.nil _ _, (fun x hx => by cases hx), by unfold zcr; split <;> rfl, HA.out.1⟩
   case round =>
    obtain ⟨j, rest, hj, rfl, hIn⟩ := hrel;have hWs := hs2;by_cases hjl : j < no
    ·have hjX : j < XR.length := by have := HP.out.2.2.1; omega
     have hjD : j < DD.length := by rw [← HP.out.2.1, List.length_map]; exact hjX
     have hDj : DD[j] = (XR[j].1, XR[j].2.2) := by
      have : DD = XR.map zaz := HP.out.2.1.symm;subst this;rw [List.getElem_map];rfl
     have HY : Q ((¬ kd = 6 ∨ ¬ XR[j].1 = dd) → zcr kd dd (DD.take (j + 1)) = zcr kd dd (DD.take j) ++ [(XR[j].1, XR[j].2.2)]) := fun h => by rw [kfil_yes hjD (by rw [hDj]; exact h), hDj]
     have HZ : Q (kd = 6 → XR[j].1 = dd → zcr kd dd (DD.take (j + 1)) = zcr kd dd (DD.take j)) := fun h h' => by subst h; exact kfil_no hjD (by rw [hDj]; exact h')
     obtain ⟨hK, hO, hPt, hSay, hBq⟩ := hIn.out;have hyq := HP.out.1 _ (List.getElem_mem hjX)
     have hrlen : rest.length ≤ j := by
      have h1 := congrArg List.length hSay;have h2 := zla kd dd (DD.take j);simp at h1 h2
      omega
     rcases HA.out.2.2.1.below hK with hnil | ⟨g, og, rfl, hgl, hgc⟩
     ·exfalso; rw [hnil] at hjX; simp at hjX
     have d0 := hgc j hjX 0 _ rfl;have d1 := hgc j hjX 1 _ rfl;have d2 := hgc j hjX 2 _ rfl;have d3 := hgc j hjX 3 _ rfl;have hrr := HA.out.2.1.below hK (by omega);have r0 := hrr.cell 0;have r1 := hrr.cell 1;simp at r0 r1
     have hrl := hrr.lt
     obtain ⟨av, nv, cv, rfl⟩ : ∃ a n c, u6 = G a n c := by
      obtain ⟨a, c, hv, _⟩ := hO.row zdy;exact ⟨a, _, c, hv⟩
     clear hIn hgc hgl hDj hjD;generalize XR[j] = y at *;obtain ⟨yd, ⟨ya, yc⟩, yl⟩ := y;simp only [Nat.add_zero] at d0 d1 d2 d3 hyq HY HZ
     generalize hyl : yl.length = ny at *;have HYL := zA hyl;have HO : Q (zd 58 4 zb9 wr W.heap.size (G av nv cv) rest ∧ rest.length + 1 ≤ 1000000 ∧ Z W.heap.size W wr) := ⟨hO, by omega, hK⟩;have HX := zD hPt hyq hSay hBq;have hsw := hK.size;clear hO hK hPt hyq hSay hBq hyl hrr hrlen;by_cases hyes : ¬ kd = 6 ∨ ¬ yd = dd
     ·have HF0 := zA (HY.out hyes)
      clear HY HZ
      have hc : (kd != 6) = true ∨ (kd = 6 ∧ ¬ yd = dd) := by
       by_cases h6 : kd = 6
       ·rcases hyes with h | h
        ·exact absurd h6 h
        ·exact Or.inr ⟨h6, h⟩
       ·exact Or.inl (by simpa using h6)
      clear hyes;rcases hc with hc | ⟨rfl, hc⟩
      all_goals
       go_wp2_with (at_builtin; refine zhx zdy oneO Tryz.underlying27 zd6 rfl (by decide) (by decide) _ rfl _ _ rfl W.heap.size _ rest rfl (HO.out.1.below (za4 wr _ _) (kaa _)) (some ⟨wr.heap.size + 1, 0, U⟩) 1 1 [(yd, (ya, yc), yl)] rfl rfl (zk.one (zap wr _ _) (by simp [zb9, HYL.out])) (by have := HO.out.2.1; simp; omega) (by have := HO.out.2.2.size; simp; omega) ?_; intro a4 n4 c4 w4 jv hn4 jy jQ; clear hn4 jQ)
       have hgT := HO.out.1.below (za4 wr (T #[E J yd, G ya ny yc, .bool true, G U 0 0] 58) (T #[E J yd, G ya ny yc, .bool true, G U 0 0] 58)) (kaa _)
       have HF : Q (zjg PP W w4 (w.heap.size + 1) #[G (some ⟨b, o, U⟩) n cap, E J t, E J 0, G (some ⟨g, og, U⟩) no oc] (G a4 n4 c4) (rest ++ [(yd, (ya, yc), yl)]) (zcr _ dd (DD.take (j + 1)))) :=
        ⟨((HO.out.2.2.alloc hsw _).alloc (by simp; omega) _).grown jy (by simp; omega) hgT.base, jv, (fun x hx => by rcases List.mem_append.1 hx with hx | hx; exact HX.out.1 x hx; rw [List.mem_singleton.1 hx]; exact HX.out.2.1), (by rw [List.map_append, HX.out.2.2.1, HF0.out]; rfl), ((HX.out.2.2.2.alloc _).alloc _).keptT jy (hgT.grownT (by decide))⟩
       clear hgT jy jv;go_wp2;go_roundw
       case rel => exact ⟨j + 1, _, by omega, by go_num, HF⟩
       case measure => simp [intOf]; omega
     ·have h6 : kd = 6 := by omega
      have hyd : yd = dd := by omega
      subst h6;subst hyd;have HF0 := zA (HZ.out rfl rfl);clear HY HZ hyes
      have HF : Q (zjg PP W (wr.alloc (T #[E J yd, G ya ny yc, .bool true, G U 0 0] 58)) (w.heap.size + 1) #[G (some ⟨b, o, U⟩) n cap, E J t, E J 0, G (some ⟨g, og, U⟩) no oc] (G av nv cv) rest (zcr 6 yd (DD.take (j + 1)))) :=
       ⟨HO.out.2.2.alloc hsw _, HO.out.1.below (zg _ _) (kaa _), HX.out.1, by rw [HX.out.2.2.1, HF0.out], HX.out.2.2.2.alloc _⟩
      go_wp2;go_roundw
      case rel => exact ⟨j + 1, _, by omega, by go_num, HF⟩
      case measure => simp [intOf]; omega
    ·have hjn : j = no := by omega
     have hfull : DD.take j = DD := List.take_of_length_le (by
      have h1 := HP.out.2.2.1;have h2 := congrArg List.length HP.out.2.1;simp at h2
      omega)
     obtain ⟨hK, hO, hPt, hSay, hBq⟩ := hIn.out;rw [hfull] at hSay;have jw := zla kd dd DD;generalize zcr kd dd DD = rD at *;have hrlen : rest.length = rD.length := by rw [← hSay, List.length_map]
     have hrr := HA.out.2.1.below hK (by omega)
     obtain ⟨av, nv, cv, rfl⟩ : ∃ a n c, u6 = G a n c := by
      obtain ⟨a, c, hv, _⟩ := hO.row zdy;exact ⟨a, _, c, hv⟩
     have hBs : Blk (r wr ⟨w.heap.size + 1, 3, U⟩ (G av nv cv)) (w.heap.size + 1) #[G (some ⟨b, o, U⟩) n cap, E J t, E J 0, G av nv cv] 29 := hBq.set 3 _;have hBel := HA.out.2.2.2.trans (hK.mono (by omega))
     have HS5 : Q (Blk (r wr ⟨w.heap.size + 1, 3, U⟩ (G av nv cv)) (w.heap.size + 1) #[G (some ⟨b, o, U⟩) n cap, E J t, E J 0, G av nv cv] 29 ∧ Blk (r wr ⟨w.heap.size + 1, 3, U⟩ (G av nv cv)) wo.heap.size #[E J kd, E J dd, G ax nl cx] 40 ∧ zd 58 4 zb9 (r wr ⟨w.heap.size + 1, 3, U⟩ (G av nv cv)) (w.heap.size + 2) (G av nv cv) rest ∧ (∀ x ∈ rest, PP x.2.1.1 x.2.2) ∧ rest.map zaz = rD ∧ Z (w.heap.size + 1) V (r wr ⟨w.heap.size + 1, 3, U⟩ (G av nv cv))) :=
      ⟨hBs, hrr.setOther (a := ⟨w.heap.size + 1, 3, U⟩) (by simp; omega) _, (hO.mono (by omega)).setOther (a := ⟨w.heap.size + 1, 3, U⟩) hBq (by decide) _, hPt, hSay, hBel.setCell (kaa _) _⟩
     have y3 := hBq.cell 3;have f3 := hBq.free 3;simp at y3
     have hws : w.heap.size + 2 ≤ (r wr ⟨w.heap.size + 1, 3, U⟩ (G av nv cv)).heap.size := by have := hK.size; simp; omega
     have hr1 : rest.length + 1 ≤ 1000000 := by omega
     clear hIn hK hO hPt hSay hBq hrr hBs hBel jw hrlen hDl hfull;go_upto_region 13 with fail
     clear y3 f3;generalize r wr ⟨w.heap.size + 1, 3, U⟩ (G av nv cv) = S at *;have hSl := HS5.out.1.lt;have hSr := HS5.out.2.1.lt;have r0 := HS5.out.2.1.cell 0;simp at r0
     by_cases k4 : kd = 4
     ·subst k4
      rw [if_pos rfl, if_neg (by decide)] at HS;have g1 := HS5.out.1.cell 1;have g1' := HS5.out.1.free 1;simp at g1
      have hne : ¬ (w.heap.size + 1 = wo.heap.size) := by omega
      have hne' : ¬ (wo.heap.size = w.heap.size + 1) := by omega
      have HF : Q (TAtR PP (w.heap.size + 1) (w.heap.size + 2) (G (some ⟨b, o, U⟩) n cap) (S.setCell ⟨w.heap.size + 1, 1, U⟩ (E J (t + 1))) (t + 1, rD) ∧ Z (w.heap.size + 1) V (S.setCell ⟨w.heap.size + 1, 1, U⟩ (E J (t + 1))) ∧ w.heap.size + 2 ≤ (S.setCell ⟨w.heap.size + 1, 1, U⟩ (E J (t + 1))).heap.size) :=
       ⟨⟨av, nv, cv, rest, HS5.out.1.set 1 _, HS5.out.2.2.1.setOther (a := ⟨w.heap.size + 1, 1, U⟩) HS5.out.1 (by decide) _, HS5.out.2.2.2.1, HS5.out.2.2.2.2.1⟩, HS5.out.2.2.2.2.2.setCell (kaa _) _, by simpa using hws⟩
      go_wp2;go_roundw
      case rel => exact ⟨k + 1, by omega, by go_num, by rw [HS.out]; exact HF.out⟩
      case measure => simp [intOf]; omega
     ·have k4' : (kd == 4) = false := by simpa using k4
      rw [if_neg k4] at HS;by_cases k5 : kd = 5
      ·subst k5
       rw [if_pos rfl] at HS;have r1 := HS5.out.2.1.cell 1;have r2 := HS5.out.2.1.cell 2;have g3 := HS5.out.1.cell 3;simp at r1 r2 g3
       clear k4;go_wp2_with (at_builtin; refine zhx zdy oneO Tryz.underlying27 zd6 rfl (by decide) (by decide) _ rfl _ _ rfl (w.heap.size + 2) _ rest rfl (HS5.out.2.2.1.below (zg S _) (kaa _)) (some ⟨S.heap.size, 0, U⟩) 1 1 [(dd, (ax, cx), l)] rfl rfl (zk.one (Blk.new S _ _) (by simp [zb9, HLL.out])) (by simp; omega) (by simp; omega) ?_; intro a4 n4 c4 w4 jv hn4 jy jQ; have hK4 := (HS5.out.1.alloc _).keptT jy ((HS5.out.2.2.1.below (zg S _) (kaa _)).grownT (by decide)); have j3 := hK4.cell 3; have j3' := hK4.free 3; simp at j3; have HK4 : Q (Blk w4 (w.heap.size + 1) #[G (some ⟨b, o, U⟩) n cap, E J t, E J 0, G av nv cv] 29) := hK4; clear hK4 hn4 jQ)
       have hgT := HS5.out.2.2.1.below (zg S (T #[E J dd, G ax nl cx, .bool true, G U 0 0] 58)) (kaa _)
       have HF : Q (TAtR PP (w.heap.size + 1) (w.heap.size + 2) (G (some ⟨b, o, U⟩) n cap) (r w4 ⟨w.heap.size + 1, 3, U⟩ (G a4 n4 c4)) (t, rD ++ [(dd, l)]) ∧ Z (w.heap.size + 1) V (r w4 ⟨w.heap.size + 1, 3, U⟩ (G a4 n4 c4)) ∧ w.heap.size + 2 ≤ (r w4 ⟨w.heap.size + 1, 3, U⟩ (G a4 n4 c4)).heap.size) := by
        refine ⟨⟨a4, n4, c4, rest ++ [(dd, (ax, cx), l)], HK4.out.set 3 _, jv.setOther (a := ⟨w.heap.size + 1, 3, U⟩) HK4.out (by decide) _, ?_, ?_⟩, ?_, ?_⟩
        ·intro x hx
         rcases List.mem_append.1 hx with hx | hx
         ·exact HS5.out.2.2.2.1 x hx
         ·rw [List.mem_singleton.1 hx]; exact HP.out.2.2.2
        ·rw [List.map_append, HS5.out.2.2.2.2.1]; rfl
        ·exact ((HS5.out.2.2.2.2.2.alloc (by omega) _).grown jy (by simp; omega) (fun k hk => by have := hgT.base k hk; omega)).setCell (kaa _) _
        ·have := jy.size
         simp at this ⊢
         omega
       clear hgT jy jv r0 r1 r2 g3 HK4;go_wp2;go_roundw
       case rel => exact ⟨k + 1, by omega, by go_num, by rw [HS.out]; exact HF.out⟩
       case measure => simp [intOf]; omega
      ·have k5' : (kd == 5) = false := by simpa using k5
       rw [if_neg k5] at HS;have HF : Q (TAtR PP (w.heap.size + 1) (w.heap.size + 2) (G (some ⟨b, o, U⟩) n cap) S (t, rD) ∧ Z (w.heap.size + 1) V S ∧ w.heap.size + 2 ≤ S.heap.size) := ⟨⟨av, nv, cv, rest, HS5.out.1, HS5.out.2.2.1, HS5.out.2.2.2.1, HS5.out.2.2.2.2.1⟩, HS5.out.2.2.2.2.2, hws⟩;clear k4 k5;go_wp2;go_roundw
       case rel => exact ⟨k + 1, by omega, by go_num, by rw [HS.out]; exact HF.out⟩
       case measure => simp [intOf]; omega
  ·have hkn : k = n := by omega
   have hfull : (X.take k).map zf = X.map zf := by rw [List.take_of_length_le (by have := HN.out.1; omega)]
   obtain ⟨hRA, hB1, hsw⟩ := hH.out;rw [hfull] at hRA;obtain ⟨oa, no, oc, XR, hB, hR, hT, hD⟩ := hRA;have hN := HV.out.1.below hB1 (by omega);generalize hhb : zac (X.map zf) = h at *;have HHB := zA hhb;clear hhb hH hfull;obtain ⟨t, DD⟩ := h;simp only at hB hD
   obtain ⟨hW, hOnly⟩ := fill4 hN (G a n cap) (E J t) (E J 0) (G oa no oc);have hBw0 := HV.out.2.trans (hB1.mono (by omega));have hBW : Z w.heap.size w (r (r (r (r wr ⟨w.heap.size, 0, U⟩ (G a n cap)) ⟨w.heap.size, 1, U⟩ (E J t)) ⟨w.heap.size, 2, U⟩ (E J 0)) ⟨w.heap.size, 3, U⟩ (G oa no oc)) := ((((hBw0).setCell (kaa _) _).setCell (kaa _) _).setCell (kaa _) _).setCell (kaa _) _
   have HF : Q (zaa R (r (r (r (r wr ⟨w.heap.size, 0, U⟩ (G a n cap)) ⟨w.heap.size, 1, U⟩ (E J t)) ⟨w.heap.size, 2, U⟩ (E J 0)) ⟨w.heap.size, 3, U⟩ (G oa no oc)) (.agg #[G a n cap, E J t, E J 0, G oa no oc]) (zv (X.map zf))) := by
    have k1 := hR.only hOnly (by decide);have k2 := k1.at zdy;exact zkt HHB.out HN.out.1 (HN.out.2.1.1.below hBW) HN.out.2.2.2.2.2 rfl (fun x hx => (HN.out.2.2.2.2.1 _ _ (HN.out.2.2.1 x hx)).below hBW) k2.2.1 k2.1 (k1.outR (fun b hb => by have := HN.out.2.2.2.1 b hb; omega) _) hD (fun x hx => (HN.out.2.2.2.2.1 _ _ (hT x hx)).below hBW)
   have HBlk : Q _ := And.intro hW hBW;have b0 := hB.cell 0;have b1 := hB.cell 1;have b2 := hB.cell 2;have b3 := hB.cell 3;have n0 := hN.cell 0;have n1 := hN.cell 1;have n2 := hN.cell 2;have n3 := hN.cell 3;have f0 := hN.free 0;have f1 := hN.free 1;have f2 := hN.free 2;have f3 := hN.free 3;simp at b0 b1 b2 b3 n0 n1 n2 n3
   clear hW hBW hOnly hB hN hR hT hD hBw0;go_wp2_with fail
   clear b0 b1 b2 b3 n0 n1 n2 n3 f0 f1 f2 f3;have e0 := Blk.cell HBlk.out.1 0;have e1 := Blk.cell HBlk.out.1 1;have e2 := Blk.cell HBlk.out.1 2;have e3 := Blk.cell HBlk.out.1 3;simp only [List.getElem?_toArray, List.getElem?_cons_zero, List.getElem?_cons_succ] at e0 e1 e2 e3
   refine bodyPost_ret (v := .agg #[G a n cap, E J t, E J 0, G oa no oc]) ?_ rfl ⟨_, rfl, HF.out, HBlk.out.2⟩;simp [results, Tryz.results14, go_sem, e0, e1, e2, e3]
end Go.Proofs.YtpcnlifmkhagkaaGreat
