import Derived.Test.YtpcnlifmkhagkaaKAJ10
set_option maxRecDepth 20000
set_option maxHeartbeats 20000000
namespace Go.Proofs.Ytpcnlifmkhagkaa
open Go.RowKit
open Go.Value renaming slice → G, int → E
open Go.IntKind renaming i64 → J
open _root_.Option renaming none → U
open Go.Obj renaming cells → T
open Go.RowKit renaming Hid → Q, Below → Z
open Go.World renaming setCell → r
open _root_.Nat renaming le_refl → kaa
open _root_.List renaming take_of_length_le → kab, getElem?_toArray → kac, getElem?_cons_zero → kad
attribute [local go_sem ↓] Go.wp_at_zero Go.wp_at_succ
def toO (x : XD) : XO := (x.1, x.2, true, ((U, 0), []))
theorem row_toO {w : World} {a : Option Addr} {X : List XD} (h : zk 4 zb7 w a X) : zk 4 zan w a (X.map toO) := by
 rcases h with rfl | ⟨b, o, rfl, hlt, hc⟩
 ·exact Or.inl rfl
 ·refine Or.inr ⟨b, o, rfl, hlt, fun i hi j u hu => hc i (by simpa using hi) j u ?_⟩
  rw [List.getElem_map] at hu;exact hu
theorem zmu {R : Nat → Prop} {w : World} {a : Option Addr} {n cap : Nat} {Y : List XL} {L : List R3} {oa : Option Addr} {no oc : Nat} {XR : List XD} {t : Int} {DD : List D2} (hB : zac L = (t, DD)) (ln : n = Y.length) (hlog : zk 3 zaj w a Y) (hlo : Out R a Y.length) (hY : Y.map zf = L) (hp : ∀ y ∈ Y, zae R w y.2.2.1.1 y.2.2.2)
  (hno : no = XR.length) (ho : zk 4 zb7 w oa XR) (hoo : Out R oa XR.length) (hs : XR.map zba = DD) (hT : ∀ x ∈ XR, zae R w x.2.1.1 x.2.2) : zy R w (.agg #[G a n cap, E J t, E J 0, G oa no oc]) (zw L) := by
 have e : zw L = ⟨L, t, 0, DD.map fun x => (x.1, x.2, true, [])⟩ := by unfold zw; rw [hB]
 rw [e];refine ⟨a, n, cap, Y, oa, no, oc, XR.map toO, rfl, ln, hlog, hlo, hY, hp, by rw [List.length_map]; exact hno, row_toO ho, by rw [List.length_map]; exact hoo, ?_, ?_⟩
 ·subst hs
  simp [toO, zz, zba]
 ·intro x hx
  obtain ⟨y, hy, rfl⟩ := List.mem_map.1 hx;exact ⟨hT y hy, zc0.nil _ _ _⟩
def TAtR (PP : Option Addr → List P3 → Prop) (B base : Nat) (lv : Value) (w : World) (g : Int × List D2) : Prop :=
 ∃ (oa : Option Addr) (no oc : Nat) (XO : List XD),
  Blk w B #[lv, E J g.1, E J 0, G oa no oc] 29 ∧ zd 38 4 zb7 w base (G oa no oc) XO ∧ (∀ x ∈ XO, PP x.2.1.1 x.2.2) ∧ XO.map zba = g.2
structure zjc (PP : Option Addr → List P3 → Prop) (W w' : World) (B : Nat) (hb : Array Value) (rv : Value) (rest : List XD) (D : List D2) : Prop where
 keep : Z W.heap.size W w'
 own : zd 38 4 zb7 w' W.heap.size rv rest
 parts : ∀ x ∈ rest, PP x.2.1.1 x.2.2
 says : rest.map zba = D
 head : Blk w' B hb 29
theorem zil (PP : Option Addr → List P3 → Prop) (R : Nat → Prop) (a : Option Addr) (X : List XL) (cap n : Nat) (w : World) (hn : n = X.length) (hl : X.length ≤ 1000000) (hR : ∀ b, R b → b < w.heap.size) (hPP : ∀ a l, PP a l → zae R w a l) (hp : zcc w a X) (hout : Out R a X.length) (hq0 : ∀ x ∈ X, PP x.2.2.1.1 x.2.2.2) :
  Calls Try.prog 44 #[G a n cap] w fun e w' => ∃ v, e = .returned v ∧ zy R w' v (zw (X.map zf)) ∧ Z w.heap.size w w' := by
 have HN := zF hn hp hq0 hR hPP hout;have hnl : n ≤ 1000000 := by omega
 clear hn hp hl hR hPP hout hq0;have hN2 : Blk ((w.alloc (T #[G U 0 0, E J 0, E J 0, G U 0 0] 29)).alloc (T #[G a n cap, E J 0, E J 0, G U 0 0] 29)) w.heap.size #[G U 0 0, E J 0, E J 0, G U 0 0] 29 := (Blk.new _ _ _).alloc _;have hN3 : Blk ((w.alloc (T #[G U 0 0, E J 0, E J 0, G U 0 0] 29)).alloc (T #[G a n cap, E J 0, E J 0, G U 0 0] 29)) (w.heap.size + 1) #[G a n cap, E J 0, E J 0, G U 0 0] 29 := zaq _ _ _;have hBV := za2 w (T #[G U 0 0, E J 0, E J 0, G U 0 0] 29) (T #[G a n cap, E J 0, E J 0, G U 0 0] 29);have hsV : ((w.alloc (T #[G U 0 0, E J 0, E J 0, G U 0 0] 29)).alloc (T #[G a n cap, E J 0, E J 0, G U 0 0] 29)).heap.size = w.heap.size + 2 := by simp
 go_enter Try.func44, Try.ntmps44
 go_wp2;generalize (w.alloc (T #[G U 0 0, E J 0, E J 0, G U 0 0] 29)).alloc (T #[G a n cap, E J 0, E J 0, G U 0 0] 29) = V at *;have HV := zB hN2 hBV;go_loopw [13] (fun i w' => ∃ k : Nat, k ≤ n ∧ i = E J k ∧ Q (TAtR PP (w.heap.size + 1) (w.heap.size + 2) (G a n cap) w' (zac ((X.take k).map zf)) ∧ Z (w.heap.size + 1) V w' ∧ w.heap.size + 2 ≤ w'.heap.size)) (fun i _ => n - (intOf i).toNat)
 case atStart => exact ⟨0, Nat.zero_le _, rfl, ⟨none, 0, 0, [], hN3, zd.nil _ _, (fun x hx => by cases hx), rfl⟩, Below.refl _ _, by omega⟩
 case round =>
  clear hN2 hN3;obtain ⟨k, hk, rfl, hH⟩ := hrel;by_cases hlt : k < n
  ·have hkX : k < X.length := by have := HN.out.1; omega
   have hbw := HV.out.2.trans (hH.out.2.1.mono (by omega));obtain ⟨b, o, rfl, hb, c0, c1, c2, -⟩ := (HN.out.2.1.below hbw).get hkX;have hq := HN.out.2.2.1 _ (List.getElem_mem hkX)
   have qx : 0 ≤ (zac ((X.take k).map zf)).1 ∧ (zac ((X.take k).map zf)).1 ≤ k ∧ (zac ((X.take k).map zf)).2.length ≤ k := by
    have := zpx (X.map zf) (k := k) (by simp; omega);rwa [← List.map_take] at this
   have HS : Q (zac ((X.take (k + 1)).map zf) = zdl (zac ((X.take k).map zf)) (zf X[k])) := by
    show _ = _
    rw [zhm hkX, zgo]
   obtain ⟨hRA, hBR, hsR⟩ := hH.out;clear hH;generalize zac ((X.take k).map zf) = h at *;obtain ⟨t, DD⟩ := h;obtain ⟨oa, no, oc, XR, hB, hR, hT, hD⟩ := hRA;simp only at hB hD qx
   generalize X[k] = x at *;obtain ⟨kd, dd, ⟨ax, cx⟩, l⟩ := x;have HS : Q (zac ((X.take (k + 1)).map zf) = zdl (t, DD) (kd, dd, l)) := HS;rw [zn6] at HS;simp only at c0 c1 c2 hq
   generalize hll : l.length = nl at *;have HLL := zA hll;clear hll;have hnr := (hR.at zdx).2.1
   have hnrk : no ≤ k := by
    have h2 := congrArg List.length hD;simp at h2
    omega
   have ht0 := qx.1;have ht1 : t ≤ 1000000 := by have := qx.2.1; omega
   have hDl := qx.2.2;have hW2 : Z wr.heap.size wr (wr.alloc (T #[E J kd, E J dd, G ax nl cx] 68)) := zi _ _;have hr2 : Blk (wr.alloc (T #[E J kd, E J dd, G ax nl cx] 68)) wr.heap.size #[E J kd, E J dd, G ax nl cx] 68 := Blk.new _ _ _;have hs2 : (wr.alloc (T #[E J kd, E J dd, G ax nl cx] 68)).heap.size = wr.heap.size + 1 := by simp
   have hB2 := hB.below hW2 hB.lt;have HA := zD hB2 hr2 (((hR.below hW2 (kaa _)).at zdx).1) (hBR.trans (hW2.mono (by omega)));have HP := zD hT hD hnr hq;have z3 := hB2.cell 3;simp at z3
   have hzl := hB2.lt;clear hB hR hT hD hB2 hr2 hq hnr hBR hW2 qx;go_wp2;generalize wr.alloc (T #[E J kd, E J dd, G ax nl cx] 68) = W at *;generalize hwo : wr = wo at *;clear hwo;go_loopw [6, 20] (fun rv i w' => ∃ (j : Nat) (rest : List XD), j ≤ no ∧ i = E J j ∧ Q (zjc PP W w' (w.heap.size + 1) #[G (some ⟨b, o, U⟩) n cap, E J t, E J 0, G oa no oc] rv rest (zcu kd dd (DD.take j)))) (fun _ i _ => no - (intOf i).toNat)
   case atStart => exact ⟨0, [], Nat.zero_le _, rfl, Below.refl _ _, zd.nil _ _, (fun x hx => by cases hx), by unfold zcu; split <;> rfl, HA.out.1⟩
   case round =>
    obtain ⟨j, rest, hj, rfl, hIn⟩ := hrel;have hWs := hs2;by_cases hjl : j < no
    ·have hjX : j < XR.length := by have := HP.out.2.2.1; omega
     have hjD : j < DD.length := by rw [← HP.out.2.1, List.length_map]; exact hjX
     have hDj : DD[j] = (XR[j].1, XR[j].2.2) := by
      have : DD = XR.map zba := HP.out.2.1.symm;subst this;rw [List.getElem_map];rfl
     have HY : Q ((¬ kd = 6 ∨ ¬ XR[j].1 = dd) → zcu kd dd (DD.take (j + 1)) = zcu kd dd (DD.take j) ++ [(XR[j].1, XR[j].2.2)]) := fun h => by rw [kfil_yes hjD (by rw [hDj]; exact h), hDj]
     have HZ : Q (kd = 6 → XR[j].1 = dd → zcu kd dd (DD.take (j + 1)) = zcu kd dd (DD.take j)) := fun h h' => by subst h; exact kfil_no hjD (by rw [hDj]; exact h')
     obtain ⟨hK, hO, hPt, hSay, hBq⟩ := hIn.out;have hyq := HP.out.1 _ (List.getElem_mem hjX)
     have hrlen : rest.length ≤ j := by
      have h1 := congrArg List.length hSay;have h2 := zmk kd dd (DD.take j);simp at h1 h2
      omega
     rcases HA.out.2.2.1.below hK with hnil | ⟨g, og, rfl, hgl, hgc⟩
     ·exfalso; rw [hnil] at hjX; simp at hjX
     have d0 := hgc j hjX 0 _ rfl;have d1 := hgc j hjX 1 _ rfl;have d2 := hgc j hjX 2 _ rfl;have d3 := hgc j hjX 3 _ rfl;have hrr := HA.out.2.1.below hK (by omega);have r0 := hrr.cell 0;have r1 := hrr.cell 1;simp at r0 r1
     have hrl := hrr.lt
     obtain ⟨av, nv, cv, rfl⟩ : ∃ a n c, u6 = G a n c := by
      obtain ⟨a, c, hv, _⟩ := hO.row zdx;exact ⟨a, _, c, hv⟩
     clear hIn hgc hgl hDj hjD;generalize XR[j] = y at *;obtain ⟨yd, ⟨ya, yc⟩, yl⟩ := y;simp only [Nat.add_zero] at d0 d1 d2 d3 hyq HY HZ
     generalize hyl : yl.length = ny at *;have HYL := zA hyl;have HO : Q (zd 38 4 zb7 wr W.heap.size (G av nv cv) rest ∧ rest.length + 1 ≤ 1000000 ∧ Z W.heap.size W wr) := ⟨hO, by omega, hK⟩;have HX := zD hPt hyq hSay hBq;have hsw := hK.size;clear hO hK hPt hyq hSay hBq hyl hrr hrlen;by_cases hyes : ¬ kd = 6 ∨ ¬ yd = dd
     ·have HF0 := zA (HY.out hyes)
      clear HY HZ
      have hc : (kd != 6) = true ∨ (kd = 6 ∧ ¬ yd = dd) := by
       by_cases h6 : kd = 6
       ·rcases hyes with h | h
        ·exact absurd h6 h
        ·exact Or.inr ⟨h6, h⟩
       ·exact Or.inl (by simpa using h6)
      clear hyes;rcases hc with hc | ⟨rfl, hc⟩
      all_goals
       go_wp2_with (at_builtin; refine zhe zdx oneO Try.underlying27 zeg rfl (by decide) (by decide) _ rfl _ _ rfl W.heap.size _ rest rfl (HO.out.1.below (za2 wr _ _) (kaa _)) (some ⟨wr.heap.size + 1, 0, U⟩) 1 1 [(yd, (ya, yc), yl)] rfl rfl (zk.one (zaq wr _ _) (by simp [zb7, HYL.out])) (by have := HO.out.2.1; simp; omega) (by have := HO.out.2.2.size; simp; omega) ?_; intro a4 n4 c4 w4 jv hn4 jy jQ; clear hn4 jQ)
       have hgT := HO.out.1.below (za2 wr (T #[E J yd, G ya ny yc, .bool true, G U 0 0] 38) (T #[E J yd, G ya ny yc, .bool true, G U 0 0] 38)) (kaa _)
       have HF : Q (zjc PP W w4 (w.heap.size + 1) #[G (some ⟨b, o, U⟩) n cap, E J t, E J 0, G (some ⟨g, og, U⟩) no oc] (G a4 n4 c4) (rest ++ [(yd, (ya, yc), yl)]) (zcu _ dd (DD.take (j + 1)))) :=
        ⟨((HO.out.2.2.alloc hsw _).alloc (by simp; omega) _).grown jy (by simp; omega) hgT.base, jv, (fun x hx => by rcases List.mem_append.1 hx with hx | hx; exact HX.out.1 x hx; rw [List.mem_singleton.1 hx]; exact HX.out.2.1), (by rw [List.map_append, HX.out.2.2.1, HF0.out]; rfl), ((HX.out.2.2.2.alloc _).alloc _).keptT jy (hgT.grownT (by decide))⟩
       clear hgT jy jv;go_wp2;go_roundw
       case rel => exact ⟨j + 1, _, by omega, by go_num, HF⟩
       case measure => simp [intOf]; omega
     ·have h6 : kd = 6 := by omega
      have hyd : yd = dd := by omega
      subst h6;subst hyd;have HF0 := zA (HZ.out rfl rfl);clear HY HZ hyes
      have HF : Q (zjc PP W (wr.alloc (T #[E J yd, G ya ny yc, .bool true, G U 0 0] 38)) (w.heap.size + 1) #[G (some ⟨b, o, U⟩) n cap, E J t, E J 0, G (some ⟨g, og, U⟩) no oc] (G av nv cv) rest (zcu 6 yd (DD.take (j + 1)))) :=
       ⟨HO.out.2.2.alloc hsw _, HO.out.1.below (zi _ _) (kaa _), HX.out.1, by rw [HX.out.2.2.1, HF0.out], HX.out.2.2.2.alloc _⟩
      go_wp2;go_roundw
      case rel => exact ⟨j + 1, _, by omega, by go_num, HF⟩
      case measure => simp [intOf]; omega
    ·have hjn : j = no := by omega
     have hfull : DD.take j = DD := kab (by
      have h1 := HP.out.2.2.1;have h2 := congrArg List.length HP.out.2.1;simp at h2
      omega)
     obtain ⟨hK, hO, hPt, hSay, hBq⟩ := hIn.out;rw [hfull] at hSay;have jw := zmk kd dd DD;generalize zcu kd dd DD = rD at *;have hrlen : rest.length = rD.length := by rw [← hSay, List.length_map]
     have hrr := HA.out.2.1.below hK (by omega)
     obtain ⟨av, nv, cv, rfl⟩ : ∃ a n c, u6 = G a n c := by
      obtain ⟨a, c, hv, _⟩ := hO.row zdx;exact ⟨a, _, c, hv⟩
     have hBs : Blk (r wr ⟨w.heap.size + 1, 3, U⟩ (G av nv cv)) (w.heap.size + 1) #[G (some ⟨b, o, U⟩) n cap, E J t, E J 0, G av nv cv] 29 := hBq.set 3 _;have hBel := HA.out.2.2.2.trans (hK.mono (by omega))
     have HS5 : Q (Blk (r wr ⟨w.heap.size + 1, 3, U⟩ (G av nv cv)) (w.heap.size + 1) #[G (some ⟨b, o, U⟩) n cap, E J t, E J 0, G av nv cv] 29 ∧ Blk (r wr ⟨w.heap.size + 1, 3, U⟩ (G av nv cv)) wo.heap.size #[E J kd, E J dd, G ax nl cx] 68 ∧ zd 38 4 zb7 (r wr ⟨w.heap.size + 1, 3, U⟩ (G av nv cv)) (w.heap.size + 2) (G av nv cv) rest ∧ (∀ x ∈ rest, PP x.2.1.1 x.2.2) ∧ rest.map zba = rD ∧ Z (w.heap.size + 1) V (r wr ⟨w.heap.size + 1, 3, U⟩ (G av nv cv))) :=
      ⟨hBs, hrr.setOther (a := ⟨w.heap.size + 1, 3, U⟩) (by simp; omega) _, (hO.mono (by omega)).setOther (a := ⟨w.heap.size + 1, 3, U⟩) hBq (by decide) _, hPt, hSay, hBel.setCell (kaa _) _⟩
     have y3 := hBq.cell 3;have f3 := hBq.free 3;simp at y3
     have hws : w.heap.size + 2 ≤ (r wr ⟨w.heap.size + 1, 3, U⟩ (G av nv cv)).heap.size := by have := hK.size; simp; omega
     have hr1 : rest.length + 1 ≤ 1000000 := by omega
     clear hIn hK hO hPt hSay hBq hrr hBs hBel jw hrlen hDl hfull;go_upto_region 13 with fail
     clear y3 f3;generalize r wr ⟨w.heap.size + 1, 3, U⟩ (G av nv cv) = S at *;have hSl := HS5.out.1.lt;have hSr := HS5.out.2.1.lt;have r0 := HS5.out.2.1.cell 0;simp at r0
     by_cases k4 : kd = 4
     ·subst k4
      rw [if_pos rfl, if_neg (by decide)] at HS;have g1 := HS5.out.1.cell 1;have g1' := HS5.out.1.free 1;simp at g1
      have hne : ¬ (w.heap.size + 1 = wo.heap.size) := by omega
      have hne' : ¬ (wo.heap.size = w.heap.size + 1) := by omega
      have HF : Q (TAtR PP (w.heap.size + 1) (w.heap.size + 2) (G (some ⟨b, o, U⟩) n cap) (S.setCell ⟨w.heap.size + 1, 1, U⟩ (E J (t + 1))) (t + 1, rD) ∧ Z (w.heap.size + 1) V (S.setCell ⟨w.heap.size + 1, 1, U⟩ (E J (t + 1))) ∧ w.heap.size + 2 ≤ (S.setCell ⟨w.heap.size + 1, 1, U⟩ (E J (t + 1))).heap.size) :=
       ⟨⟨av, nv, cv, rest, HS5.out.1.set 1 _, HS5.out.2.2.1.setOther (a := ⟨w.heap.size + 1, 1, U⟩) HS5.out.1 (by decide) _, HS5.out.2.2.2.1, HS5.out.2.2.2.2.1⟩, HS5.out.2.2.2.2.2.setCell (kaa _) _, by simpa using hws⟩
      go_wp2;go_roundw
      case rel => exact ⟨k + 1, by omega, by go_num, by rw [HS.out]; exact HF.out⟩
      case measure => simp [intOf]; omega
     ·have k4' : (kd == 4) = false := by simpa using k4
      rw [if_neg k4] at HS;by_cases k5 : kd = 5
      ·subst k5
       rw [if_pos rfl] at HS;have r1 := HS5.out.2.1.cell 1;have r2 := HS5.out.2.1.cell 2;have g3 := HS5.out.1.cell 3;simp at r1 r2 g3
       clear k4;go_wp2_with (at_builtin; refine zhe zdx oneO Try.underlying27 zeg rfl (by decide) (by decide) _ rfl _ _ rfl (w.heap.size + 2) _ rest rfl (HS5.out.2.2.1.below (zi S _) (kaa _)) (some ⟨S.heap.size, 0, U⟩) 1 1 [(dd, (ax, cx), l)] rfl rfl (zk.one (Blk.new S _ _) (by simp [zb7, HLL.out])) (by simp; omega) (by simp; omega) ?_; intro a4 n4 c4 w4 jv hn4 jy jQ; have hK4 := (HS5.out.1.alloc _).keptT jy ((HS5.out.2.2.1.below (zi S _) (kaa _)).grownT (by decide)); have j3 := hK4.cell 3; have j3' := hK4.free 3; simp at j3; have HK4 : Q (Blk w4 (w.heap.size + 1) #[G (some ⟨b, o, U⟩) n cap, E J t, E J 0, G av nv cv] 29) := hK4; clear hK4 hn4 jQ)
       have hgT := HS5.out.2.2.1.below (zi S (T #[E J dd, G ax nl cx, .bool true, G U 0 0] 38)) (kaa _)
       have HF : Q (TAtR PP (w.heap.size + 1) (w.heap.size + 2) (G (some ⟨b, o, U⟩) n cap) (r w4 ⟨w.heap.size + 1, 3, U⟩ (G a4 n4 c4)) (t, rD ++ [(dd, l)]) ∧ Z (w.heap.size + 1) V (r w4 ⟨w.heap.size + 1, 3, U⟩ (G a4 n4 c4)) ∧ w.heap.size + 2 ≤ (r w4 ⟨w.heap.size + 1, 3, U⟩ (G a4 n4 c4)).heap.size) := by
        refine ⟨⟨a4, n4, c4, rest ++ [(dd, (ax, cx), l)], HK4.out.set 3 _, jv.setOther (a := ⟨w.heap.size + 1, 3, U⟩) HK4.out (by decide) _, ?_, ?_⟩, ?_, ?_⟩
        ·intro x hx
         rcases List.mem_append.1 hx with hx | hx
         ·exact HS5.out.2.2.2.1 x hx
         ·rw [List.mem_singleton.1 hx]; exact HP.out.2.2.2
        ·rw [List.map_append, HS5.out.2.2.2.2.1]; rfl
        ·exact ((HS5.out.2.2.2.2.2.alloc (by omega) _).grown jy (by simp; omega) (fun k hk => by have := hgT.base k hk; omega)).setCell (kaa _) _
        ·have := jy.size
         simp at this ⊢
         omega
       clear hgT jy jv r0 r1 r2 g3 HK4;go_wp2;go_roundw
       case rel => exact ⟨k + 1, by omega, by go_num, by rw [HS.out]; exact HF.out⟩
       case measure => simp [intOf]; omega
      ·have k5' : (kd == 5) = false := by simpa using k5
       rw [if_neg k5] at HS;have HF : Q (TAtR PP (w.heap.size + 1) (w.heap.size + 2) (G (some ⟨b, o, U⟩) n cap) S (t, rD) ∧ Z (w.heap.size + 1) V S ∧ w.heap.size + 2 ≤ S.heap.size) := ⟨⟨av, nv, cv, rest, HS5.out.1, HS5.out.2.2.1, HS5.out.2.2.2.1, HS5.out.2.2.2.2.1⟩, HS5.out.2.2.2.2.2, hws⟩;clear k4 k5;go_wp2;go_roundw
       case rel => exact ⟨k + 1, by omega, by go_num, by rw [HS.out]; exact HF.out⟩
       case measure => simp [intOf]; omega
  ·have hkn : k = n := by omega
   have hfull : (X.take k).map zf = X.map zf := by rw [kab (by have := HN.out.1; omega)]
   obtain ⟨hRA, hB1, hsw⟩ := hH.out;rw [hfull] at hRA;obtain ⟨oa, no, oc, XR, hB, hR, hT, hD⟩ := hRA;have hN := HV.out.1.below hB1 (by omega);generalize hhb : zac (X.map zf) = h at *;have HHB := zA hhb;clear hhb hH hfull;obtain ⟨t, DD⟩ := h;simp only at hB hD
   obtain ⟨hW, hOnly⟩ := fill4 hN (G a n cap) (E J t) (E J 0) (G oa no oc);have hBw0 := HV.out.2.trans (hB1.mono (by omega));have hBW : Z w.heap.size w (r (r (r (r wr ⟨w.heap.size, 0, U⟩ (G a n cap)) ⟨w.heap.size, 1, U⟩ (E J t)) ⟨w.heap.size, 2, U⟩ (E J 0)) ⟨w.heap.size, 3, U⟩ (G oa no oc)) := ((((hBw0).setCell (kaa _) _).setCell (kaa _) _).setCell (kaa _) _).setCell (kaa _) _
   have HF : Q (zy R (r (r (r (r wr ⟨w.heap.size, 0, U⟩ (G a n cap)) ⟨w.heap.size, 1, U⟩ (E J t)) ⟨w.heap.size, 2, U⟩ (E J 0)) ⟨w.heap.size, 3, U⟩ (G oa no oc)) (.agg #[G a n cap, E J t, E J 0, G oa no oc]) (zw (X.map zf))) := by
    have k1 := hR.only hOnly (by decide);have k2 := k1.at zdx;exact zmu HHB.out HN.out.1 (HN.out.2.1.1.below hBW) HN.out.2.2.2.2.2 rfl (fun x hx => (HN.out.2.2.2.2.1 _ _ (HN.out.2.2.1 x hx)).below hBW) k2.2.1 k2.1 (k1.outR (fun b hb => by have := HN.out.2.2.2.1 b hb; omega) _) hD (fun x hx => (HN.out.2.2.2.2.1 _ _ (hT x hx)).below hBW)
   have HBlk : Q _ := And.intro hW hBW;have b0 := hB.cell 0;have b1 := hB.cell 1;have b2 := hB.cell 2;have b3 := hB.cell 3;have n0 := hN.cell 0;have n1 := hN.cell 1;have n2 := hN.cell 2;have n3 := hN.cell 3;have f0 := hN.free 0;have f1 := hN.free 1;have f2 := hN.free 2;have f3 := hN.free 3;simp at b0 b1 b2 b3 n0 n1 n2 n3
   clear hW hBW hOnly hB hN hR hT hD hBw0;go_wp2_with fail
   clear b0 b1 b2 b3 n0 n1 n2 n3 f0 f1 f2 f3;have e0 := Blk.cell HBlk.out.1 0;have e1 := Blk.cell HBlk.out.1 1;have e2 := Blk.cell HBlk.out.1 2;have e3 := Blk.cell HBlk.out.1 3;simp only [kac, kad, List.getElem?_cons_succ] at e0 e1 e2 e3
   refine bodyPost_ret (v := .agg #[G a n cap, E J t, E J 0, G oa no oc]) ?_ rfl ⟨_, rfl, HF.out, HBlk.out.2⟩;simp [results, Try.results44, go_sem, e0, e1, e2, e3]
theorem zct {w : World} {N : Nat} {zV : TypeId} {c0 c1 c2 c3 : Value} (hb : Blk w N #[c0, c1, c2, c3] zV) (v0 v1 v2 v3 : Value) :
  Blk (r (r (r (r w ⟨N, 0, U⟩ v0) ⟨N, 1, U⟩ v1) ⟨N, 2, U⟩ v2) ⟨N, 3, U⟩ v3) N #[v0, v1, v2, v3] zV ∧ zg (fun b => b = N) w (r (r (r (r w ⟨N, 0, U⟩ v0) ⟨N, 1, U⟩ v1) ⟨N, 2, U⟩ v2) ⟨N, 3, U⟩ v3) := by
 refine ⟨(fill4 hb v0 v1 v2 v3).1, ?_⟩;have k0 := (zg.refl (fun b => b = N) w).setCell (p := ⟨N, 0, U⟩) rfl v0;have k1 := k0.setCell (p := ⟨N, 1, U⟩) rfl v1;have k2 := k1.setCell (p := ⟨N, 2, U⟩) rfl v2;exact k2.setCell (p := ⟨N, 3, U⟩) rfl v3
theorem zip (R : Nat → Prop) (w : World) (m : Nat) : ∃ R' : Nat → Prop, (∀ b, R b → R' b) ∧ (∀ b, w.heap.size ≤ b → b < w.heap.size + m → R' b) ∧ (∀ b, R' b → R b ∨ w.heap.size ≤ b) ∧ (∀ b, R' b → (∀ c, R c → c < w.heap.size) → b < w.heap.size + m) :=
 ⟨fun b => R b ∨ (w.heap.size ≤ b ∧ b < w.heap.size + m), fun _ h => Or.inl h, fun _ h1 h2 => Or.inr ⟨h1, h2⟩, fun _ h => h.elim Or.inl (fun x => Or.inr x.1), fun b h hR => h.elim (fun x => by have := hR b x; omega) (fun x => x.2)⟩
theorem zo1 (R : Nat → Prop) (v : Value) (g : Gh) (w : World) (hR : ∀ b, R b → b < w.heap.size) (hv : zy R w v g) (hl : g.log.length ≤ 900000) :
  Calls Try.prog 51 #[v] w fun e w' => ∃ v', e = .returned (.tuple #[v', E J (zah g).2]) ∧ zy R w' v' (zah g).1 ∧ Z w.heap.size w w' := by
 obtain ⟨la, nl, lc, Y, oa, no, oc, X, rfl, hF⟩ := hv;obtain ⟨R', r1, r2, r3, r4⟩ := zip R w 2;obtain ⟨L, bt, nx, O⟩ := g;simp only at hF hl ⊢
 have hYl : Y.length ≤ 900000 := by rw [← hF.says, List.length_map] at hl; exact hl
 have hbX := za2 w (T #[G la nl lc, E J bt, E J nx, G oa no oc] 29) (T #[G U 0 0, E J 0, E J 0, G U 0 0] 29);have hN0 : Blk ((w.alloc (T #[G la nl lc, E J bt, E J nx, G oa no oc] 29)).alloc (T #[G U 0 0, E J 0, E J 0, G U 0 0] 29)) w.heap.size #[G la nl lc, E J bt, E J nx, G oa no oc] 29 := (Blk.new _ _ _).alloc _;have hN1 : Blk ((w.alloc (T #[G la nl lc, E J bt, E J nx, G oa no oc] 29)).alloc (T #[G U 0 0, E J 0, E J 0, G U 0 0] 29)) (w.heap.size + 1) #[G U 0 0, E J 0, E J 0, G U 0 0] 29 := zaq _ _ _;have hsX : ((w.alloc (T #[G la nl lc, E J bt, E J nx, G oa no oc] 29)).alloc (T #[G U 0 0, E J 0, E J 0, G U 0 0] 29)).heap.size = w.heap.size + 2 := by simp
 have HR : Q ((∀ b, R b → R' b) ∧ R' (w.heap.size + 1) ∧ (∀ b, R' b → b < w.heap.size + 2)) := ⟨r1, r2 _ (by omega) (by omega), fun b hb => r4 b hb hR⟩;go_enter Try.func51, Try.ntmps51
 by_cases c : 19 < bt
 ·have HE : Q (zah ⟨L, bt, nx, O⟩ = (⟨L, bt, nx, O⟩, 5)) := by show _ = _; unfold zah; rw [if_pos c]
  have HG := zA hF;clear hF r1 r2 r3 r4 hR hl hYl hbX hN0 hN1 hsX;have hbX := za2 w (T #[G la nl lc, E J bt, E J nx, G oa no oc] 29) (T #[G la nl lc, E J bt, E J nx, G oa no oc] 29);have hN1 : Blk ((w.alloc (T #[G la nl lc, E J bt, E J nx, G oa no oc] 29)).alloc (T #[G la nl lc, E J bt, E J nx, G oa no oc] 29)) (w.heap.size + 1) #[G la nl lc, E J bt, E J nx, G oa no oc] 29 := zaq _ _ _;go_wp2_with fail
  generalize ((w.alloc (T #[G la nl lc, E J bt, E J nx, G oa no oc] 29)).alloc (T #[G la nl lc, E J bt, E J nx, G oa no oc] 29)) = jz at *;have HF : Q (zy R jz (.agg #[G la nl lc, E J bt, E J nx, G oa no oc]) ⟨L, bt, nx, O⟩ ∧ Z w.heap.size w jz) := ⟨⟨la, nl, lc, Y, oa, no, oc, X, rfl, HG.out.below hbX⟩, hbX⟩;obtain ⟨e0, e1, e2, e3⟩ := hN1.cells4;clear hbX hN1;refine bodyPost_ret (v := .tuple #[.agg #[G la nl lc, E J bt, E J nx, G oa no oc], E J 5]) ?_ rfl ⟨_, by rw [HE.out], by rw [HE.out]; exact HF.out.1, HF.out.2⟩;simp [results, Try.results51, go_sem, e0, e1, e2, e3]
 ·have HE : Q (zah ⟨L, bt, nx, O⟩ = (zw (L ++ [(4, 0, [])]), 0)) := by show _ = _; unfold zah; rw [if_neg c]
  have HG := zB (hF.wide r3) hYl;clear hF r1 r2 r3 r4 hR hl;go_upto_region 3 with fail
  generalize ((w.alloc (T #[G la nl lc, E J bt, E J nx, G oa no oc] 29)).alloc (T #[G U 0 0, E J 0, E J 0, G U 0 0] 29)) = V at *;have hNl := hN0.cell 0;simp only [kac, kad] at hNl
  have hNs := hN0.lt;have HsX := zA hsX;clear hsX
  go_wp2_with (
   first
   | (at_builtin; refine zhl za4 zcr Try.underlying26 zcl rfl (by decide) _ rfl _ _ rfl (w.heap.size + 2) (G a5 n5 c5) Y rfl (HO5.out.below (zi w5 _)) (some ⟨w5.heap.size, 0, U⟩) 1 1 [(4, 0, (none, 0), [])] rfl rfl (zk.one (Blk.new w5 _ _) rfl) (by unfold maxLen; simp; omega) (by simp; omega) (by simp; omega) ?_; intro a6 n6 c6 w6 j8 hn6 hb6; have hr6 := j8.at za4; have HO6 : Q (zk 3 zaj w6 a6 (Y ++ [(4, 0, (none, 0), [])]) ∧ n6 = (Y ++ [((4, 0, (none, 0), []) : XL)]).length ∧ Out R' a6 (Y ++ [((4, 0, (none, 0), []) : XL)]).length ∧ Z w.heap.size w w6 ∧ Blk w6 (w.heap.size + 1) #[G U 0 0, E J 0, E J 0, G U 0 0] 29 ∧ w.heap.size + 2 ≤ w6.heap.size) := ⟨hr6.1, hr6.2.1, j8.outR (fun b hb => HR.out.2.2 b hb), (HB5.out.1.alloc hs5 _).trans (hb6.mono (by omega)), (HB5.out.2.alloc _).below hb6 (by omega), by have := hb6.size; simp at this; omega⟩; clear j8 hn6 hb6 hr6)
   | (at_builtin; refine zhl za4 zcr Try.underlying26 zcl rfl (by decide) _ rfl _ _ rfl (w.heap.size + 2) (G (some ⟨V.heap.size, 0, U⟩) 0 0) [] rfl (zak.made (Blk.new _ _ _) _) la nl lc Y rfl HG.out.1.ln ((HG.out.1.log.below hbX).below (zi _ _)) (by unfold maxLen; simp; omega) (by simp; omega) (by have := HsX.out; rw [World.size_alloc]; omega) ?_; intro a5 n5 c5 w5 qv hn5 hb5; have HO5 : Q (zak 68 3 zaj w5 (w.heap.size + 2) (G a5 n5 c5) Y) := qv; have HB5 : Q (Z w.heap.size w w5 ∧ Blk w5 (w.heap.size + 1) #[G U 0 0, E J 0, E J 0, G U 0 0] 29) := ⟨(hbX.alloc hbX.size _).trans (hb5.mono (by omega)), (hN1.alloc _).below hb5 (by omega)⟩; have hs5 : w.heap.size ≤ w5.heap.size := HB5.out.1.size; have hs5' : w.heap.size + 2 ≤ w5.heap.size := Nat.le_trans (Nat.le_of_eq HsX.out.symm) (by have := hb5.size; simp at this; omega); clear qv hn5 hb5))
  have hmap : (Y ++ [((4, 0, (U, 0), []) : XL)]).map zf = L ++ [(4, 0, [])] := by rw [List.map_append, HG.out.1.says]; rfl
  have HH := zil (fun a l => zae R' w a l) R' a6 (Y ++ [(4, 0, (none, 0), [])]) c6 n6 w6 HO6.out.2.1 (by simp; omega) (fun b hb => by have := HR.out.2.2 b hb; have := HO6.out.2.2.2.2.2; omega) (fun a l h => h.below HO6.out.2.2.2.1)
   ⟨HO6.out.1, fun x hx => by
    rcases List.mem_append.1 hx with hx | hx
    ·exact ((HG.out.1.parts x hx).below HO6.out.2.2.2.1).1
    ·rw [List.mem_singleton.1 hx]; exact Or.inl rfl⟩ HO6.out.2.2.1 (fun x hx => by
    rcases List.mem_append.1 hx with hx | hx
    ·exact HG.out.1.parts x hx
    ·rw [List.mem_singleton.1 hx]; exact zae.nil _ _ _)
  rw [hmap] at HH;refine HH.mono ?_;rintro e w7 ⟨v7, rfl, hv7, hb7⟩;obtain ⟨la', nl', lc', Y', oa', no', oc', X', rfl, hF7⟩ := hv7;have hN7 := HO6.out.2.2.2.2.1.below hb7 HO6.out.2.2.2.2.1.lt;have hK := zct hN7 (G la' nl' lc') (E J (zw (L ++ [(4, 0, [])])).boot) (E J (zw (L ++ [(4, 0, [])])).next) (G oa' no' oc');obtain ⟨u0, u1, u2, u3⟩ := hN7.cells4;obtain ⟨f0, f1, f2, f3⟩ := hN7.free4;have hB7 := HO6.out.2.2.2.1.trans (hb7.mono (by have := HO6.out.2.2.2.2.2; omega));clear HH hmap hb7;generalize zw (L ++ [(4, 0, [])]) = zJ at *;obtain ⟨GL, gb, gn, GO⟩ := zJ;simp only at hF7 hK
  have HF : Q (zy R (r (r (r (r w7 ⟨w.heap.size + 1, 0, U⟩ (G la' nl' lc')) ⟨w.heap.size + 1, 1, U⟩ (E J gb)) ⟨w.heap.size + 1, 2, U⟩ (E J gn)) ⟨w.heap.size + 1, 3, U⟩ (G oa' no' oc')) (.agg #[G la' nl' lc', E J gb, E J gn, G oa' no' oc']) ⟨GL, gb, gn, GO⟩ ∧ Z w.heap.size w (r (r (r (r w7 ⟨w.heap.size + 1, 0, U⟩ (G la' nl' lc')) ⟨w.heap.size + 1, 1, U⟩ (E J gb)) ⟨w.heap.size + 1, 2, U⟩ (E J gn)) ⟨w.heap.size + 1, 3, U⟩ (G oa' no' oc'))) :=
   ⟨⟨la', nl', lc', Y', oa', no', oc', X', rfl, (hF7.keep (hK.2.mono (fun b _ hb => by subst hb; exact HR.out.2.1))).wide (fun b hb => Or.inl (HR.out.1 b hb))⟩, hB7.trans (hK.2.below hB7.size (fun b hb => by omega))⟩
  obtain ⟨e0, e1, e2, e3⟩ := hK.1.cells4;clear hF7 hN7 hK hB7;go_wp2_with fail
  clear u0 u1 u2 u3 f0 f1 f2 f3;generalize (r (r (r (r w7 ⟨w.heap.size + 1, 0, U⟩ (G la' nl' lc')) ⟨w.heap.size + 1, 1, U⟩ (E J gb)) ⟨w.heap.size + 1, 2, U⟩ (E J gn)) ⟨w.heap.size + 1, 3, U⟩ (G oa' no' oc')) = jz at *;refine bodyPost_ret (v := .tuple #[.agg #[G la' nl' lc', E J gb, E J gn, G oa' no' oc'], E J 0]) ?_ rfl ⟨_, by rw [HE.out], by rw [HE.out]; exact HF.out.1, HF.out.2⟩;simp [results, Try.results51, go_sem, e0, e1, e2, e3]
theorem zm.keptT {w w' : World} {base : Nat} {v : Value} {ms : List Q4} (h : zm w base v ms) {row : Option Nat} (hg : w.grownBy w' row) (hne : ∀ k, row = some k → ∃ cs t, Blk w k cs t ∧ t ≠ 43 ∧ t ≠ 49) : zm w' base v ms := by
 obtain ⟨X, h1, h2, h3⟩ := h;refine ⟨X, h1.keptT hg (fun k hk => ?_), h2, fun x hx => (h3 x hx).calm (zj.grown hg (fun k hk => ?_))⟩
 ·obtain ⟨cs, t, hb, hn, _⟩ := hne k hk
  exact ⟨cs, t, hb, hn⟩
 ·obtain ⟨cs, t, hb, _, hn⟩ := hne k hk
  exact ⟨cs, t, hb, hn⟩
theorem zd.kinds {α : Type} {e t t' : TypeId} {size : Nat} {enc : α → List Value} {w : World} {base : Nat} {v : Value} {xs : List α} (h : zd e size enc w base v xs) (h1 : e ≠ t) (h2 : e ≠ t') : ∀ k, v.ownBlock = some k → ∃ cs t0, Blk w k cs t0 ∧ t0 ≠ t ∧ t0 ≠ t' := fun k hk => by
 obtain ⟨_, cs, hb⟩ := h.blk hk;exact ⟨cs, e, hb, h1, h2⟩
theorem filt_yes {X : List XO} {k : Nat} (h : k < X.length) (hd : X[k].2.2.1 = true) : (X.take (k + 1)).filter (fun x => x.2.2.1) = (X.take k).filter (fun x => x.2.2.1) ++ [X[k]] := by rw [zax h, List.filter_append]; simp [hd]
theorem filt_no {X : List XO} {k : Nat} (h : k < X.length) (hd : X[k].2.2.1 = false) : (X.take (k + 1)).filter (fun x => x.2.2.1) = (X.take k).filter (fun x => x.2.2.1) := by rw [zax h, List.filter_append]; simp [hd]
theorem filn_yes {O : List O4} {k : Nat} (h : k < O.length) (hd : O[k].2.2.1 = true) : ((O.take (k + 1)).filter (fun x => !x.2.2.1)).flatMap za9 = ((O.take k).filter (fun x => !x.2.2.1)).flatMap za9 := by rw [zax h, List.filter_append]; simp [hd]
theorem filn_no {O : List O4} {k : Nat} (h : k < O.length) (hd : O[k].2.2.1 = false) : ((O.take (k + 1)).filter (fun x => !x.2.2.1)).flatMap za9 = ((O.take k).filter (fun x => !x.2.2.1)).flatMap za9 ++ za9 O[k] := by rw [zax h, List.filter_append]; simp [hd]
theorem zpb (R : Nat → Prop) (v : Value) (g : Gh) (w : World) (hR : ∀ b, R b → b < w.heap.size) (hv : zy R w v g) (hf : zcd g.opn) :
  Calls Try.prog 54 #[v] w fun e w' => ∃ v' sv, e = .returned (.tuple #[v', sv]) ∧ zy R w' v' (zu g).1 ∧ zm w' w.heap.size sv (zu g).2 ∧ Z w.heap.size w w' := by
 obtain ⟨la, nl, lc, Y, oa, no, oc, X, rfl, hF⟩ := hv;obtain ⟨R', r1, r2, r3, r4⟩ := zip R w 2;obtain ⟨L, bt, nx, O⟩ := g;simp only at hF hf
 have hbX := za2 w (T #[G la nl lc, E J bt, E J nx, G oa no oc] 29) (T #[G U 0 0, E J 0, E J 0, G U 0 0] 29);have hN0 : Blk ((w.alloc (T #[G la nl lc, E J bt, E J nx, G oa no oc] 29)).alloc (T #[G U 0 0, E J 0, E J 0, G U 0 0] 29)) w.heap.size #[G la nl lc, E J bt, E J nx, G oa no oc] 29 := (Blk.new _ _ _).alloc _;have hN1 : Blk ((w.alloc (T #[G la nl lc, E J bt, E J nx, G oa no oc] 29)).alloc (T #[G U 0 0, E J 0, E J 0, G U 0 0] 29)) (w.heap.size + 1) #[G U 0 0, E J 0, E J 0, G U 0 0] 29 := zaq _ _ _;have hsX : ((w.alloc (T #[G la nl lc, E J bt, E J nx, G oa no oc] 29)).alloc (T #[G U 0 0, E J 0, E J 0, G U 0 0] 29)).heap.size = w.heap.size + 2 := by simp
 have HR : Q ((∀ b, R b → R' b) ∧ R' w.heap.size ∧ R' (w.heap.size + 1) ∧ (∀ b, R' b → b < w.heap.size + 2)) := ⟨r1, r2 _ (by omega) (by omega), r2 _ (by omega) (by omega), fun b hb => r4 b hb hR⟩;have HG : Q (zbk R' w la nl Y oa no X L O ∧ zcd O ∧ X.length = O.length) := ⟨hF.wide r3, hf, by rw [← hF.osays, List.length_map]⟩;have hnl : no ≤ 100000 := by have h1 := hF.on; have h2 := hf.1; have h3 := HG.out.2.2; omega
 clear hF r1 r2 r3 r4 hR hf;go_enter Try.func54, Try.ntmps54
 go_upto_region 3 with fail
 generalize ((w.alloc (T #[G la nl lc, E J bt, E J nx, G oa no oc] 29)).alloc (T #[G U 0 0, E J 0, E J 0, G U 0 0] 29)) = V at *;have HV := zD hbX hN0 hN1 hsX;have n3 := hN0.cell 3;simp only [kac, kad, List.getElem?_cons_succ] at n3
 have nl0 := hN0.lt;clear hbX hN0 hN1 hsX;go_wp2;clear n3;go_loopw [4, 5, 11] (fun rv sv i w' => ∃ k : Nat, k ≤ no ∧ i = E J k ∧ Q (zd 38 4 zan w' V.heap.size rv ((X.take k).filter (fun x => x.2.2.1)) ∧ zm w' V.heap.size sv (((O.take k).filter (fun x => !x.2.2.1)).flatMap za9) ∧ Z V.heap.size V w')) (fun _ _ i _ => no - (intOf i).toNat)
 case atStart => exact ⟨0, Nat.zero_le _, rfl, zd.nil _ _, zm.nil _ _, Below.refl _ _⟩
 case round =>
  obtain ⟨k, hk, rfl, hH⟩ := hrel;by_cases hlt : k < no
  ·have hkX : k < X.length := by have := HG.out.1.on; omega
   have hkO : k < O.length := by have := HG.out.2.2; omega
   obtain ⟨hO, hM, hbw⟩ := hH.out;have hbW := HV.out.1.trans (hbw.mono HV.out.1.size);have hsz := hbw.size
   have hOk : O[k] = zz X[k] := by
    have : O = X.map zz := HG.out.1.osays.symm;subst this;rw [List.getElem_map]
   have hfk := HG.out.2.1.2 O[k] (List.getElem_mem hkO);have HY1 : Q (X[k].2.2.1 = true → (X.take (k + 1)).filter (fun x => x.2.2.1) = (X.take k).filter (fun x => x.2.2.1) ++ [X[k]] ∧ ((O.take (k + 1)).filter (fun x => !x.2.2.1)).flatMap za9 = ((O.take k).filter (fun x => !x.2.2.1)).flatMap za9) := fun h => ⟨filt_yes hkX h, filn_yes hkO (by rw [hOk]; exact h)⟩
   have HY2 : Q (X[k].2.2.1 = false → (X.take (k + 1)).filter (fun x => x.2.2.1) = (X.take k).filter (fun x => x.2.2.1) ∧ ((O.take (k + 1)).filter (fun x => !x.2.2.1)).flatMap za9 = ((O.take k).filter (fun x => !x.2.2.1)).flatMap za9 ++ za9 (zz X[k])) := fun h => ⟨filt_no hkX h, by rw [filn_no hkO (by rw [hOk]; exact h), hOk]⟩
   have hlr : ((X.take k).filter (fun x => x.2.2.1)).length ≤ 100000 := by have h1 := List.length_filter_le (fun x : XO => x.2.2.1) (X.take k); rw [List.length_take] at h1; omega
   have hlm : (((O.take k).filter (fun x => !x.2.2.1)).flatMap za9).length ≤ 300000 := by
    have h1 := zf6 zg3 ((O.take k).filter (fun x => !x.2.2.1));have h2 := List.length_filter_le (fun x : O4 => !x.2.2.1) (O.take k);rw [List.length_take] at h2;omega
   obtain ⟨g, o, rfl, hg, d0, d1, d2, d3, hq⟩ := (HG.out.1.opns.lies.below hbW).get hkX;rw [hOk] at hfk;generalize (X.take k).filter (fun x => x.2.2.1) = jz at *;generalize ((O.take k).filter (fun x => !x.2.2.1)).flatMap za9 = ms at *;generalize X[k] = x at *;obtain ⟨dd, ⟨⟨pa, pc⟩, l⟩, dec, ⟨ha, hc⟩, hd⟩ := x;obtain ⟨av, nv, cv, rfl⟩ := hO.slice zas;have HW : Q (zd 38 4 zan wr V.heap.size (G av nv cv) jz ∧ zm wr V.heap.size u5 ms ∧ Z V.heap.size V wr ∧ zal wr pa l ∧ l.length ≤ 4) := ⟨hO, hM, hbw, hq.1, hfk.1⟩;simp only [zz] at d0 d1 d2 d3 HY1 HY2
   obtain ⟨ln, hn, HLL⟩ : ∃ ln hn, Q (l.length = ln ∧ hd.length = hn) := ⟨_, _, rfl, rfl⟩;rw [HLL.out.1] at d1;rw [HLL.out.2] at d3;clear hH hO hM hbw hbW hq hfk hOk hkO hkX;have HB2 : Q (Z wr.heap.size wr ((wr.alloc (T #[E J dd, G pa ln pc, .bool dec, G ha hn hc] 38)).alloc (T #[E J dd, G pa ln pc, .bool dec, G ha hn hc] 38))) := za2 _ _ _
   cases dec with
   | true =>
    have HE := HY1.out rfl;have HE1 : Q _ := HE;clear HE HY1 HY2;go_wp2_with (at_builtin; refine zbj zas oneQ Try.underlying27 zeg rfl (by decide) _ rfl _ _ rfl V.heap.size _ jz rfl (HW.out.1.below HB2.out (kaa _)) (some ⟨wr.heap.size + 1, 0, U⟩) 1 1 [(dd, ((pa, pc), l), true, ((ha, hc), hd))] rfl rfl (zk.one (zaq wr _ _) (by simp [zan, HLL.out.1, HLL.out.2])) (by unfold maxLen; simp; omega) (by simp; omega) (by simp; omega) ?_; intro a4 n4 c4 w4 jv hn4 jy jQ; clear hn4)
    have HF : Q (zd 38 4 zan w4 V.heap.size (G a4 n4 c4) ((X.take (k + 1)).filter (fun x => x.2.2.1)) ∧ zm w4 V.heap.size u5 (((O.take (k + 1)).filter (fun x => !x.2.2.1)).flatMap za9) ∧ Z V.heap.size V w4) := by
     rw [HE1.out.1, HE1.out.2];exact ⟨jv, (HW.out.2.1.below HB2.out).keptT jy ((HW.out.1.below HB2.out (kaa _)).kinds (by decide) (by decide)), (HW.out.2.2.1.trans (HB2.out.mono hsz)).grown jy (by simp; omega) HW.out.1.base⟩
    clear jv jy jQ d0 d1 d2 d3;go_wp2;go_roundw
    case rel => exact ⟨k + 1, by omega, by go_num, HF⟩
    case measure => simp [intOf]; omega
   | false =>
    have HE := HY2.out rfl;have HE1 : Q _ := HE;clear HE HY1 HY2 HB2;obtain ⟨zX, hUl, hU, hUs, hUT⟩ := HW.out.2.1.len;obtain ⟨a5, n5, c5, rfl⟩ := hU.slice zbw;have HU := zC hU hUs hUT;have hU3 : zX.length ≤ 300000 := by omega
    clear hU hUs hUT hUl;go_wp2_with fail
    have hbA := zi wr (T #[E J dd, G pa ln pc, .bool false, G ha hn hc] 38);have hsA : Q ((wr.alloc (T #[E J dd, G pa ln pc, .bool false, G ha hn hc] 38)).heap.size = wr.heap.size + 1) := World.size_alloc _ _;generalize wr.alloc (T #[E J dd, G pa ln pc, .bool false, G ha hn hc] 38) = A at *;refine (zke dd pa ln pc l false ha hn hc hd A HLL.out.1.symm HW.out.2.2.2.2 (HW.out.2.2.2.1.below hbA)).mono ?_;rintro e w2 ⟨v2, rfl, hM2, hb2⟩;have hml2 := zg3 (dd, l, false, hd);obtain ⟨zV, hTl, hT, hTs, hTT⟩ := hM2.len;obtain ⟨a2, n2, c2, rfl⟩ := hT.slice zbw;have hTr := hT.at zbw;have hT3 : zV.length ≤ 3 := by omega
    have HT := zE hTs hTT hTr.2.1 hTr.1 (hbA.trans (hb2.mono hbA.size));have hs2 := HT.out.2.2.2.2.size;have hsA2 := hbA.size;clear hM2 hT hTs hTT hTr hb2 hbA hTl hml2 d0 d1 d2 d3;go_wp2_with (at_builtin; refine zbj zbw oneM Try.underlying24 zfm rfl (by decide) _ rfl _ _ rfl V.heap.size _ zX rfl (HU.out.1.below HT.out.2.2.2.2 (kaa _)) a2 n2 c2 zV rfl HT.out.2.2.1 HT.out.2.2.2.1 (by unfold maxLen; omega) (by omega) (by omega) ?_; intro a4 n4 c4 w4 jv hn4 jy jQ; clear hn4)
    have HF : Q (zd 38 4 zan w4 V.heap.size (G av nv cv) ((X.take (k + 1)).filter (fun x => x.2.2.1)) ∧ zm w4 V.heap.size (G a4 n4 c4) (((O.take (k + 1)).filter (fun x => !x.2.2.1)).flatMap za9) ∧ Z V.heap.size V w4) := by
     rw [HE1.out.1, HE1.out.2];refine ⟨(HW.out.1.below HT.out.2.2.2.2 (kaa _)).keptT jy ((HU.out.1.below HT.out.2.2.2.2 (kaa _)).grownT (by decide)), ?_, (HW.out.2.2.1.trans (HT.out.2.2.2.2.mono hsz)).grown jy (by omega) HU.out.1.base⟩;exact zm.app HU.out.2.1 HU.out.2.2 (zj.below HT.out.2.2.2.2 (kaa _)) (HU.out.1.below HT.out.2.2.2.2 (kaa _)) jy jv HT.out.1 (fun y hy => (HT.out.2.1 y hy).mono (by omega))
    clear jv jy jQ;go_wp2;go_roundw
    case rel => exact ⟨k + 1, by omega, by go_num, HF⟩
    case measure => simp [intOf]; omega
  ·have hH2 : zd 38 4 zan wr V.heap.size u4 (X.filter (fun x => x.2.2.1)) ∧ zm wr V.heap.size u5 ((O.filter (fun x => !x.2.2.1)).flatMap za9) ∧ Z V.heap.size V wr := by
    have := hH.out;rwa [kab (by have h1 := HG.out.1.on; omega), kab (by have h1 := HG.out.1.on; have h2 := HG.out.2.2; omega)] at this
   obtain ⟨hO, hM, hbw⟩ := hH2;obtain ⟨av, nv, cv, rfl⟩ := hO.slice zas;have hat := hO.at zas;have hB0 := HV.out.2.1.below hbw HV.out.2.1.lt;have hB1 := HV.out.2.2.1.below hbw HV.out.2.2.1.lt;have hbW := HV.out.1.trans (hbw.mono HV.out.1.size);have hS3 : Blk (r wr ⟨w.heap.size, 3, U⟩ (G av nv cv)) w.heap.size #[G la nl lc, E J bt, E J nx, G av nv cv] 29 := hB0.set 3 _;have hS31 : Blk (r wr ⟨w.heap.size, 3, U⟩ (G av nv cv)) (w.heap.size + 1) #[G U 0 0, E J 0, E J 0, G U 0 0] 29 := hB1.setOther (a := ⟨w.heap.size, 3, U⟩) (by simp) _;have hK3 : zg R' wr (r wr ⟨w.heap.size, 3, U⟩ (G av nv cv)) := (zg.refl R' wr).setCell (p := ⟨w.heap.size, 3, U⟩) HR.out.2.1 _;have hbS : Z w.heap.size w (r wr ⟨w.heap.size, 3, U⟩ (G av nv cv)) := hbW.setCell (kaa _) _;have hFw := (HG.out.1.below hbW).keep hK3
   have hMs : zm (r wr ⟨w.heap.size, 3, U⟩ (G av nv cv)) V.heap.size u5 ((O.filter (fun x => !x.2.2.1)).flatMap za9) := by
    obtain ⟨jz, z1, z2, z3⟩ := hM;exact ⟨jz, z1.setOther (a := ⟨w.heap.size, 3, U⟩) hB0 (by decide) _, z2, fun x hx => (z3 x hx).calm (zj.setCell (a := ⟨w.heap.size, 3, U⟩) hB0 (by decide) _)⟩
   have hOs : zd 38 4 zan (r wr ⟨w.heap.size, 3, U⟩ (G av nv cv)) V.heap.size (G av nv cv) (X.filter (fun x => x.2.2.1)) := hO.setOther (a := ⟨w.heap.size, 3, U⟩) hB0 (by decide) _;have m3 := hB0.cell 3;have k3 := hB0.free 3;simp only [kac, kad, List.getElem?_cons_succ] at m3
   have hbl := hB0.lt;clear hH hO hM hB0 hB1 hbw hbW hK3 hat;go_upto_region 11 with fail
   clear m3 k3 hbl;generalize r wr ⟨w.heap.size, 3, U⟩ (G av nv cv) = S at *;obtain ⟨s0, s1, s2, s3⟩ := hS3.cells4;obtain ⟨t0, t1, t2, t3⟩ := hS31.cells4;obtain ⟨y0, y1, y2, y3⟩ := hS31.free4;have hl0 := hS3.lt;have hl1 := hS31.lt;have hKK := zct hS31 (G la nl lc) (E J bt) (E J nx) (G av nv cv);have hKb := hKK.2.below (B := w.heap.size + 1) (by omega) (fun b hb => by omega)
   have HF : Q (zy R ((((S.setCell ⟨w.heap.size + 1, 0, U⟩ (G la nl lc)).setCell ⟨w.heap.size + 1, 1, U⟩ (E J bt)).setCell ⟨w.heap.size + 1, 2, U⟩ (E J nx)).setCell ⟨w.heap.size + 1, 3, U⟩ (G av nv cv)) (.agg #[G la nl lc, E J bt, E J nx, G av nv cv]) (zu ⟨L, bt, nx, O⟩).1 ∧ zm ((((S.setCell ⟨w.heap.size + 1, 0, U⟩ (G la nl lc)).setCell ⟨w.heap.size + 1, 1, U⟩ (E J bt)).setCell ⟨w.heap.size + 1, 2, U⟩ (E J nx)).setCell ⟨w.heap.size + 1, 3, U⟩ (G av nv cv)) w.heap.size u5 (zu ⟨L, bt, nx, O⟩).2 ∧ Z w.heap.size w ((((S.setCell ⟨w.heap.size + 1, 0, U⟩ (G la nl lc)).setCell ⟨w.heap.size + 1, 1, U⟩ (E J bt)).setCell ⟨w.heap.size + 1, 2, U⟩ (E J nx)).setCell ⟨w.heap.size + 1, 3, U⟩ (G av nv cv))) := by
    have hk1 : zg R' S _ := hKK.2.mono (fun b _ hb => by subst hb; exact HR.out.2.2.1);have hq := hFw.keep hk1;have hVs := HV.out.2.2.2;have hOk := hOs.at zas;have hout : Out R' av (X.filter (fun x => x.2.2.1)).length := hOs.outR (fun b hb => by have := HR.out.2.2.2 b hb; omega) _;refine ⟨⟨la, nl, lc, Y, av, nv, cv, X.filter (fun x => x.2.2.1), rfl, ?_⟩, ?_, ?_⟩
    ·have hm : (X.filter (fun x => x.2.2.1)).map zz = O.filter (fun o => o.2.2.1) := by
      rw [← HG.out.1.osays, List.filter_map];rfl
     exact (zbk.wide ⟨hq.ln, hq.log, hq.lout, hq.says, hq.parts, hOk.2.1, hOk.1.keepR hout hk1, hout, hm, fun x hx => hq.oparts x (List.mem_filter.1 hx).1⟩ (fun b hb => Or.inl (HR.out.1 b hb)))
    ·obtain ⟨jz, z1, z2, z3⟩ := hMs
     refine ⟨jz, ?_, z2, fun x hx => ((z3 x hx).mono (by omega)).calm ?_⟩
     ·exact ((((z1.mono (by omega)).setOther (a := ⟨w.heap.size + 1, 0, U⟩) hS31 (by decide) _).setOther (a := ⟨w.heap.size + 1, 1, U⟩) (hS31.set 0 _) (by decide) _).setOther (a := ⟨w.heap.size + 1, 2, U⟩) ((hS31.set 0 _).set 1 _) (by decide) _).setOther (a := ⟨w.heap.size + 1, 3, U⟩) (((hS31.set 0 _).set 1 _).set 2 _) (by decide) _
     ·exact (((zj.setCell (a := ⟨w.heap.size + 1, 0, U⟩) hS31 (by decide) _).trans (zj.setCell (a := ⟨w.heap.size + 1, 1, U⟩) (hS31.set 0 _) (by decide) _)).trans (zj.setCell (a := ⟨w.heap.size + 1, 2, U⟩) ((hS31.set 0 _).set 1 _) (by decide) _)).trans (zj.setCell (a := ⟨w.heap.size + 1, 3, U⟩) (((hS31.set 0 _).set 1 _).set 2 _) (by decide) _)
    ·exact hbS.trans (hKb.mono (by omega))
   obtain ⟨e0, e1, e2, e3⟩ := hKK.1.cells4;clear hS3 hS31 hFw hMs hOs hKK hKb hbS;go_wp2_with fail
   clear s0 s1 s2 s3 t0 t1 t2 t3 y0 y1 y2 y3 hl0 hl1;generalize ((((S.setCell ⟨w.heap.size + 1, 0, U⟩ (G la nl lc)).setCell ⟨w.heap.size + 1, 1, U⟩ (E J bt)).setCell ⟨w.heap.size + 1, 2, U⟩ (E J nx)).setCell ⟨w.heap.size + 1, 3, U⟩ (G av nv cv)) = jz at *;refine bodyPost_ret (v := .tuple #[.agg #[G la nl lc, E J bt, E J nx, G av nv cv], u5]) ?_ rfl ⟨_, _, rfl, HF.out.1, HF.out.2.1, HF.out.2.2⟩;simp [results, Try.results54, go_sem, e0, e1, e2, e3]
end Go.Proofs.Ytpcnlifmkhagkaa
