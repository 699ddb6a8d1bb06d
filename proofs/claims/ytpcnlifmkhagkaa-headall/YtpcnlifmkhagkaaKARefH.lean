import Derived.Test.YtpcnlifmkhagkaaKAJ03
set_option maxRecDepth 20000
set_option maxHeartbeats 20000000
namespace Go.Proofs.Ytpcnlifmkhagkaa
open Go.RowKit
open Go.Value renaming slice → G, int → E
open Go.IntKind renaming i64 → J
open _root_.Option renaming none → U
open Go.Obj renaming cells → T
open Go.RowKit renaming Hid → Q, Below → Z
open Go.World renaming setCell → r
open _root_.Nat renaming le_refl → kaa
open Go.RowKit.Below renaming refl → kab
attribute [local go_sem ↓] Go.wp_at_zero Go.wp_at_succ
theorem rdoV {f : Nat} {s : S4} {l : List P3} {args : Array Value} {w : World} {t0 t1 t2 t3 : Int} (hd : doB s l = (t0, t1, t2, t3))
  (h : Calls Try.prog f args w fun e w' => (∃ x0 x1 x2 x3, doB s l = (x0, x1, x2, x3) ∧ e = .returned (.agg #[E J x0, E J x1, E J x2, E J x3])) ∧ Z w.heap.size w w') :
  Calls Try.prog f args w fun e w' => e = .returned (.agg #[E J t0, E J t1, E J t2, E J t3]) ∧ Z w.heap.size w w' := doV hd h
def RAt (PP : Option Addr → List P3 → Prop) (B base : Nat) (lv : Value) (w : World) (h : H3) : Prop :=
 ∃ (ra : Option Addr) (nr rc : Nat) (XR : List XD) (da : Option Addr) (nd dc : Nat),
  Blk w B #[lv, E J h.1.1, E J h.1.2.1, E J h.1.2.2.1, E J h.1.2.2.2, G ra nr rc, G da nd dc] 100 ∧
  zd 70 2 zc1 w base (G ra nr rc) XR ∧ (∀ x ∈ XR, PP x.2.1.1 x.2.2) ∧ XR.map zba = h.2.1 ∧ zd 3 1 zv w base (G da nd dc) h.2.2
def QAt (B base : Nat) (lv rv : Value) (w : World) (s : S4) (dn : List Int) : Prop :=
 ∃ (da : Option Addr) (nd dc : Nat), Blk w B #[lv, E J s.1, E J s.2.1, E J s.2.2.1, E J s.2.2.2, rv, G da nd dc] 100 ∧ zd 3 1 zv w base (G da nd dc) dn
theorem zk.keep {α : Type} {size : Nat} {enc : α → List Value} {w w' : World} {a : Option Addr} {xs : List α} (h : zk size enc w a xs) {R : Nat → Prop} (hk : zg R w w') (hR : ∀ ad, a = some ad → ¬ R ad.block) : zk size enc w' a xs := by
 rcases h with rfl | ⟨b, o, rfl, hlt, hc⟩
 ·exact Or.inl rfl
 ·exact Or.inr ⟨b, o, rfl, Nat.lt_of_lt_of_le hlt hk.size, fun i hi j u hu => (hk.cell hlt (hR _ rfl)).trans (hc i hi j u hu)⟩
theorem Blk.drew {w : World} {b : Nat} {cs : Array Value} {t : TypeId} (h : Blk w b cs t) : Blk w.drew b cs t := h
theorem fillS {w : World} {N : Nat} {zV : TypeId} {c0 c1 c2 c3 c4 c5 c6 : Value} (hb : Blk w N #[c0, c1, c2, c3, c4, c5, c6] zV) (v1 v2 v3 v4 : Value) :
  Blk (r (r (r (r w ⟨N, 1, U⟩ v1) ⟨N, 2, U⟩ v2) ⟨N, 3, U⟩ v3) ⟨N, 4, U⟩ v4) N #[c0, v1, v2, v3, v4, c5, c6] zV ∧
  zby zV w (r (r (r (r w ⟨N, 1, U⟩ v1) ⟨N, 2, U⟩ v2) ⟨N, 3, U⟩ v3) ⟨N, 4, U⟩ v4) := by
 have b1 : Blk (r w ⟨N, 1, U⟩ v1) N #[c0, v1, c2, c3, c4, c5, c6] zV := hb.set 1 v1;have b2 : Blk (r (r w ⟨N, 1, U⟩ v1) ⟨N, 2, U⟩ v2) N #[c0, v1, v2, c3, c4, c5, c6] zV := b1.set 2 v2;have b3 : Blk (r (r (r w ⟨N, 1, U⟩ v1) ⟨N, 2, U⟩ v2) ⟨N, 3, U⟩ v3) N #[c0, v1, v2, v3, c4, c5, c6] zV := b2.set 3 v3;have b4 : Blk (r (r (r (r w ⟨N, 1, U⟩ v1) ⟨N, 2, U⟩ v2) ⟨N, 3, U⟩ v3) ⟨N, 4, U⟩ v4) N #[c0, v1, v2, v3, v4, c5, c6] zV := b3.set 4 v4;exact ⟨b4, (((zby.setCell (a := ⟨N, 1, U⟩) hb v1).trans (zby.setCell (a := ⟨N, 2, U⟩) b1 v2)).trans (zby.setCell (a := ⟨N, 3, U⟩) b2 v3)).trans (zby.setCell (a := ⟨N, 4, U⟩) b3 v4)⟩
structure zgz (PP : Option Addr → List P3 → Prop) (W w' : World) (B : Nat) (lv rv : Value) (rest : List XD) (wv : Value) (base : Nat) (rs : Value) (I : I4) : Prop where
 keep : zg (fun k => k = B ∨ W.heap.size ≤ k) W w'
 own : zd 70 2 zc1 w' W.heap.size rv rest
 parts : ∀ x ∈ rest, PP x.2.1.1 x.2.2
 says : rest.map zba = I.1
 was : wv = .bool I.2.1
 house : QAt B base lv rs w' I.2.2.1 I.2.2.2
def ziq (PP : Option Addr → List P3 → Prop) (base : Nat) (w : World) (v lv : Value) (h : H3) : Prop :=
 ∃ (ra : Option Addr) (nr rc : Nat) (XR : List XD) (da : Option Addr) (nd dc : Nat),
  v = .agg #[lv, E J h.1.1, E J h.1.2.1, E J h.1.2.2.1, E J h.1.2.2.2, G ra nr rc, G da nd dc] ∧
  zd 70 2 zc1 w base (G ra nr rc) XR ∧ (∀ x ∈ XR, PP x.2.1.1 x.2.2) ∧ XR.map zba = h.2.1 ∧ zd 3 1 zv w base (G da nd dc) h.2.2
theorem zoa (PP : Option Addr → List P3 → Prop) (a : Option Addr) (X : List XL) (cap n : Nat) (w : World) (hn : n = X.length) (hc : zc9 (X.map zf)) (hp : zcc w a X) (hw0 : ∀ a l, PP a l → zal w a l) (hp0 : ∀ x ∈ X, PP x.2.2.1.1 x.2.2.2) :
  Calls Try.prog 82 #[G a n cap] w fun e w' => ∃ v, e = .returned v ∧ ziq PP w.heap.size w' v (G a n cap) (ze (X.map zf)) ∧ Z w.heap.size w w' := by
 have HW0 := zB hw0 hp0;have HN := zC hn hc hp;have hnl : n * 40 ≤ 140737488355328 := by have := hc.size; simp at this; omega
 clear hn hc hp hw0 hp0;have hN2 : Blk ((w.alloc (T #[G U 0 0, E J 0, E J 0, E J 0, E J 0, G U 0 0, G U 0 0] 100)).alloc (T #[G a n cap, E J 0, E J 0, E J 0, E J 0, G U 0 0, G U 0 0] 100)) w.heap.size #[G U 0 0, E J 0, E J 0, E J 0, E J 0, G U 0 0, G U 0 0] 100 := (Blk.new _ _ _).alloc _;have hN3 : Blk ((w.alloc (T #[G U 0 0, E J 0, E J 0, E J 0, E J 0, G U 0 0, G U 0 0] 100)).alloc (T #[G a n cap, E J 0, E J 0, E J 0, E J 0, G U 0 0, G U 0 0] 100)) (w.heap.size + 1) #[G a n cap, E J 0, E J 0, E J 0, E J 0, G U 0 0, G U 0 0] 100 := zaq _ _ _;have hBV := za2 w (T #[G U 0 0, E J 0, E J 0, E J 0, E J 0, G U 0 0, G U 0 0] 100) (T #[G a n cap, E J 0, E J 0, E J 0, E J 0, G U 0 0, G U 0 0] 100);have hsV : ((w.alloc (T #[G U 0 0, E J 0, E J 0, E J 0, E J 0, G U 0 0, G U 0 0] 100)).alloc (T #[G a n cap, E J 0, E J 0, E J 0, E J 0, G U 0 0, G U 0 0] 100)).heap.size = w.heap.size + 2 := by simp
 go_enter Try.func82, Try.ntmps82
 go_wp2;generalize (w.alloc (T #[G U 0 0, E J 0, E J 0, E J 0, E J 0, G U 0 0, G U 0 0] 100)).alloc (T #[G a n cap, E J 0, E J 0, E J 0, E J 0, G U 0 0, G U 0 0] 100) = V at *;have HV := zB hN2 hBV;go_loopw [14] (fun i w' => ∃ k : Nat, k ≤ n ∧ i = E J k ∧ Q (RAt PP (w.heap.size + 1) (w.heap.size + 2) (G a n cap) w' (ze ((X.take k).map zf)) ∧ Z (w.heap.size + 1) V w' ∧ w.heap.size + 2 ≤ w'.heap.size)) (fun i _ => n - (intOf i).toNat)
 case atStart => exact ⟨0, Nat.zero_le _, rfl, ⟨none, 0, 0, [], none, 0, 0, hN3, zd.nil _ _, (fun x hx => by cases hx), rfl, zd.nil _ _⟩, kab _ _, by omega⟩
 case round =>
  clear hN2 hN3;obtain ⟨k, hk, rfl, hH⟩ := hrel;by_cases hlt : k < n
  ·have hkX : k < X.length := by have := HN.out.1; omega
   have hbw := HV.out.2.trans (hH.out.2.1.mono (by omega));obtain ⟨b, o, rfl, hb, c0, c1, c2, -⟩ := (HN.out.2.2.below hbw).get hkX;have hq := HW0.out.2 _ (List.getElem_mem hkX);have hokk := zjg HN.out.2.1.ok hkX;have htk : (X.map zf).take k = (X.take k).map zf := by rw [List.map_take]
   have qx : zep k (ze ((X.take k).map zf)) := by
    have := zk4 HN.out.2.1.ok (k := k) (by simp; omega);rwa [htk] at this
   have HS : Q (ze ((X.take (k + 1)).map zf) = rstep (ze ((X.take k).map zf)) (zf X[k])) := by
    show _ = _
    rw [zpq _ qx.nd, zhm hkX, zey]
   have hwi := HN.out.2.1.within k (by simp; omega);rw [htk] at hwi;obtain ⟨hRA, hBR, hsR⟩ := hH.out;clear hH htk;generalize ze ((X.take k).map zf) = h at *;obtain ⟨⟨s0, s1, s2, s3⟩, DD, dn⟩ := h;obtain ⟨ra, nr, rc, XR, da, nd, dc, hB, hR, hT, hD, hI⟩ := hRA;simp only at hB hD hI hwi
   generalize X[k] = x at *;obtain ⟨kd, dd, ⟨ax, cx⟩, l⟩ := x;simp only [zf] at c0 c1 c2 hq hokk HS
   generalize hll : l.length = nl at *;have HLL := zA hll;clear hll;have hnr := (hR.at zdz).2.1
   have hnrk : nr ≤ k := by
    have h1 := qx.few;have h2 := congrArg List.length hD;simp at h1 h2
    omega
   have hW2 : Z wr.heap.size wr (wr.alloc (T #[E J kd, E J dd, G ax nl cx] 68)) := zi _ _;have hr2 : Blk (wr.alloc (T #[E J kd, E J dd, G ax nl cx] 68)) wr.heap.size #[E J kd, E J dd, G ax nl cx] 68 := Blk.new _ _ _;have hs2 : (wr.alloc (T #[E J kd, E J dd, G ax nl cx] 68)).heap.size = wr.heap.size + 1 := by simp
   have hB2 := hB.below hW2 hB.lt;have HA := zE hB2 hr2 (hR.below hW2 (kaa _)) (hI.below hW2 (kaa _)) (hBR.trans (hW2.mono (by omega)));have HP := zG hT hD hnr hq hokk qx hwi;have z5 := hB2.cell 5;simp at z5
   have hzl := hB2.lt;clear hB hR hT hD hI hB2 hr2 hq hokk qx hwi hnr hBR hW2;go_wp2;generalize wr.alloc (T #[E J kd, E J dd, G ax nl cx] 68) = W at *
   have HQ : Q (∀ ad : Addr, ra = some ad → ¬ (ad.block = w.heap.size + 1 ∨ W.heap.size ≤ ad.block)) := fun ad had => by
    obtain ⟨ab, ao, asp⟩ := ad;intro hor;rcases HA.out.2.2.1.2 with ⟨hv, _⟩ | ⟨g, cp, cur, hv, hg, hh, _⟩
    ·cases hv; cases had
    ·cases hv
     cases had;rcases hor with h1 | h1
     ·exact HA.out.2.2.1.neT HA.out.1 (by decide) (by rw [← h1]; rfl)
     ·have hlt' := (World.ownsRow.lt HA.out.2.2.1 ab rfl).2
      have h2 : W.heap.size ≤ ab := h1;omega
   have HRow := zA ((HA.out.2.2.1.at zdz).1);generalize hwo : wr = wo at *;clear hwo;go_loopw [6, 7, 21] (fun rv wv i w' => ∃ (j : Nat) (rest : List XD), j ≤ nr ∧ i = E J j ∧ Q (zgz PP W w' (w.heap.size + 1) (G (some ⟨b, o, U⟩) n cap) rv rest wv (w.heap.size + 2) (G ra nr rc) (zbr kd dd (s0, s1, s2, s3) dn (DD.take j)))) (fun _ _ i _ => nr - (intOf i).toNat)
   case atStart => exact ⟨0, [], Nat.zero_le _, rfl, zg.refl _ _, zd.nil _ _, (fun x hx => by cases hx), rfl, rfl, da, nd, dc, HA.out.1, HA.out.2.2.2.1⟩
   case round =>
    obtain ⟨j, rest, hj, rfl, hIn⟩ := hrel;have hWs := hs2;by_cases hjl : j < nr
    ·have hjX : j < XR.length := by have := HP.out.2.2.1; omega
     have hjD : j < DD.length := by rw [← HP.out.2.1, List.length_map]; exact hjX
     have hDj : DD[j] = (XR[j].1, XR[j].2.2) := by
      have : DD = XR.map zba := HP.out.2.1.symm;subst this;rw [List.getElem_map];rfl
     have HSJ : Q (zbr kd dd (s0, s1, s2, s3) dn (DD.take (j + 1)) = zbn kd dd (zbr kd dd (s0, s1, s2, s3) dn (DD.take j)) (XR[j].1, XR[j].2.2)) := by
      show _ = _
      rw [iall_take hjD, hDj]
     have HFA : Q ((zbr kd dd (s0, s1, s2, s3) dn (DD.take j)).2.1 = false → (zbr kd dd (s0, s1, s2, s3) dn (DD.take j)).2.2 = ((s0, s1, s2, s3), dn)) := zp8;have jw := zj1 kd dd (DD.take j) ([], false, (s0, s1, s2, s3), dn);change (zbr kd dd (s0, s1, s2, s3) dn (DD.take j)).1.length ≤ _ ∧ (zbr kd dd (s0, s1, s2, s3) dn (DD.take j)).2.2.2.length ≤ _ at jw
     simp only [List.length_nil, Nat.zero_add, List.length_take] at jw
     have hoky : OkP XR[j].2.2 := by
      have := HP.out.2.2.2.2.2.1.ok DD[j] (List.getElem_mem hjD);rw [hDj] at this;exact this
     have hdnk : dn.length ≤ k := HP.out.2.2.2.2.2.1.done;obtain ⟨hK, hO, hPt, hSay, rfl, da2, nd2, dc2, hBq, hIq⟩ := hIn.out;have hyq := HP.out.1 _ (List.getElem_mem hjX);generalize zbr kd dd (s0, s1, s2, s3) dn (DD.take j) = I at *;obtain ⟨rD, wb, ⟨t0, t1, t2, t3⟩, dn2⟩ := I;simp only at hSay hBq hIq HFA jw
     rcases HRow.out.keep hK HQ.out with hnil | ⟨g, og, rfl, hgl, hgc⟩
     ·exfalso; rw [hnil] at hjX; simp at hjX
     have d0 := hgc j hjX 0 _ rfl;have d1 := hgc j hjX 1 _ rfl;have hrr := HA.out.2.1.keep hK (by omega);have r0 := hrr.cell 0;have r1 := hrr.cell 1;simp at r0 r1
     have hrl := hrr.lt
     obtain ⟨av, nv, cv, rfl⟩ : ∃ a n c, u6 = G a n c := by
      obtain ⟨a, c, hv, _⟩ := hO.row zdz;exact ⟨a, _, c, hv⟩
     have hrlen : rest.length = rD.length := by rw [← hSay, List.length_map]
     clear hIn hgc hgl hDj hjD;generalize XR[j] = y at *;obtain ⟨yd, ⟨ya, yc⟩, yl⟩ := y;simp only [Nat.add_zero] at d0 d1 hyq hoky HSJ
     generalize hyl : yl.length = ny at *;have HYL := zA hyl;have HO : Q (zd 70 2 zc1 wr W.heap.size (G av nv cv) rest ∧ rest.length + 1 ≤ n ∧ zg (fun k => k = w.heap.size + 1 ∨ W.heap.size ≤ k) W wr) := ⟨hO, by omega, hK⟩;have HZ := zC hPt hyq hSay;have HQB := zB hBq hIq;have hdn2 : dn2.length ≤ 2 * k := by omega
     have hsw := hK.size;clear hO hK hPt hyq hSay hBq hIq hyl hrr hrlen jw hdnk;by_cases hyd : yd = dd
     ·subst hyd
      cases wb with
      | true =>
       have HST : zbn kd yd (rD, true, (t0, t1, t2, t3), dn2) (yd, yl) = (rD ++ [(yd, yl)], true, (t0, t1, t2, t3), dn2) := by simp [zbn]
       go_wp2_with (at_builtin; refine zbj zdz oneD Try.underlying40 zhq rfl (by decide) _ rfl _ _ rfl W.heap.size _ rest rfl (HO.out.1.below (za2 wr _ _) (kaa _)) (some ⟨wr.heap.size + 1, 0, U⟩) 1 1 [(yd, (ya, yc), yl)] rfl rfl (zk.one (zaq wr _ _) (by simp [zc1, HYL.out])) (by have := HO.out.2.1; unfold maxLen; simp; omega) (by have := HO.out.2.1; simp; omega) (by have := HO.out.2.2.size; simp; omega) ?_; intro a4 n4 c4 w4 jv hn4 jy jQ; clear hn4 jQ)
       have hgT := HO.out.1.below (za2 wr (T #[E J yd, G ya ny yc] 70) (T #[E J yd, G ya ny yc] 70)) (kaa _)
       have HF : Q (zgz PP W w4 (w.heap.size + 1) (G (some ⟨b, o, U⟩) n cap) (G a4 n4 c4) (rest ++ [(yd, (ya, yc), yl)]) (.bool true) (w.heap.size + 2) (G (some ⟨g, og, U⟩) nr rc) (zbr kd yd (s0, s1, s2, s3) dn (DD.take (j + 1)))) := by
        rw [HSJ.out, HST];exact ⟨((HO.out.2.2.alloc _).alloc _).trans (zg.ofGrown jy (fun k hk => Or.inr (hgT.base k hk))), jv, (fun x hx => by rcases List.mem_append.1 hx with hx | hx; exact HZ.out.1 x hx; rw [List.mem_singleton.1 hx]; exact HZ.out.2.1), (by rw [List.map_append, HZ.out.2.2]; rfl), rfl, da2, nd2, dc2, ((HQB.out.1.alloc _).alloc _).keptT jy (hgT.grownT (by decide)), (HQB.out.2.below (za2 wr _ _) (kaa _)).keptT jy (hgT.grownT (by decide))⟩
       clear hgT jy jv;go_wp2;go_roundw
       case rel => exact ⟨j + 1, _, by omega, by go_num, HF⟩
       case measure => simp [intOf]; omega
      | false =>
       have hfa := HFA.out rfl;simp only [Prod.mk.injEq] at hfa
       obtain ⟨⟨rfl, rfl, rfl, rfl⟩, rfl⟩ := hfa;by_cases k2 : kd = 2
       ·subst k2
        have HST : Q (zbn 2 yd (rD, false, (t0, t1, t2, t3), dn2) (yd, yl) = (rD, true, doB (t0, t1, t2, t3) yl, dn2 ++ [yd])) := by show _ = _; simp [zbn]
        generalize hdo : doB (t0, t1, t2, t3) yl = q at *;obtain ⟨q0, q1, q2, q3⟩ := q;have HDO := zA hdo;clear hdo;have hBT := HQB.out.1.alloc (T #[E J yd, G ya ny yc] 70);have z1 := hBT.cell 1;have z2 := hBT.cell 2;have z3 := hBT.cell 3;have z4 := hBT.cell 4;simp at z1 z2 z3 z4
        have HT : Q (Z wr.heap.size wr (wr.alloc (T #[E J yd, G ya ny yc] 70))) := zi _ _;have HBw := zA (HV.out.2.trans ((HA.out.2.2.2.2.trans (HO.out.2.2.below (by omega) (fun k hk => by omega))).mono (by omega)));have hbl := HQB.out.1.lt;clear hBT;go_wp2_with fail
        refine (rdoV HDO.out (refDo_any t0 t1 t2 t3 ya yl yc ny _ HYL.out.symm hoky.1 (((HW0.out.1 _ _ HZ.out.2.1).below HBw.out).below HT.out) hoky.2.1 hoky.2.2 HP.out.2.2.2.2.2.2)).mono ?_;rintro e w3 ⟨rfl, hb3⟩;have hB3 := HT.out.trans (hb3.mono HT.out.size);have hq3 := HQB.out.1.below hB3 hbl;obtain ⟨hY, hOnly⟩ := fillS hq3 (E J q0) (E J q1) (E J q2) (E J q3);have hr3 := (HA.out.2.1.keep HO.out.2.2 (by omega)).below hB3 hrl
        have HY : Q (Blk (r (r (r (r w3 ⟨w.heap.size + 1, 1, U⟩ (E J q0)) ⟨w.heap.size + 1, 2, U⟩ (E J q1)) ⟨w.heap.size + 1, 3, U⟩ (E J q2)) ⟨w.heap.size + 1, 4, U⟩ (E J q3)) (w.heap.size + 1) #[G (some ⟨b, o, U⟩) n cap, E J q0, E J q1, E J q2, E J q3, G (some ⟨g, og, U⟩) nr rc, G da2 nd2 dc2] 100 ∧ Blk (r (r (r (r w3 ⟨w.heap.size + 1, 1, U⟩ (E J q0)) ⟨w.heap.size + 1, 2, U⟩ (E J q1)) ⟨w.heap.size + 1, 3, U⟩ (E J q2)) ⟨w.heap.size + 1, 4, U⟩ (E J q3)) wo.heap.size #[E J 2, E J yd, G ax nl cx] 68 ∧ zd 70 2 zc1 (r (r (r (r w3 ⟨w.heap.size + 1, 1, U⟩ (E J q0)) ⟨w.heap.size + 1, 2, U⟩ (E J q1)) ⟨w.heap.size + 1, 3, U⟩ (E J q2)) ⟨w.heap.size + 1, 4, U⟩ (E J q3)) W.heap.size (G av nv cv) rest ∧ zd 3 1 zv (r (r (r (r w3 ⟨w.heap.size + 1, 1, U⟩ (E J q0)) ⟨w.heap.size + 1, 2, U⟩ (E J q1)) ⟨w.heap.size + 1, 3, U⟩ (E J q2)) ⟨w.heap.size + 1, 4, U⟩ (E J q3)) (w.heap.size + 2) (G da2 nd2 dc2) dn2 ∧ zg (fun k => k = w.heap.size + 1 ∨ W.heap.size ≤ k) W (r (r (r (r w3 ⟨w.heap.size + 1, 1, U⟩ (E J q0)) ⟨w.heap.size + 1, 2, U⟩ (E J q1)) ⟨w.heap.size + 1, 3, U⟩ (E J q2)) ⟨w.heap.size + 1, 4, U⟩ (E J q3))) :=
         ⟨hY, hOnly _ _ _ (by decide) hr3, (HO.out.1.below hB3 (kaa _)).only hOnly (by decide), (HQB.out.2.below hB3 (kaa _)).only hOnly (by decide), ((((HO.out.2.2.trans (zg.ofBelow hB3 (fun k h1 h2 => absurd h1 (by omega)))).setCell (Or.inl rfl) _).setCell (Or.inl rfl) _).setCell (Or.inl rfl) _).setCell (Or.inl rfl) _⟩
        have u1 := hq3.cell 1;have u2 := hq3.cell 2;have u3 := hq3.cell 3;have u4 := hq3.cell 4;have f1 := hq3.free 1;have f2 := hq3.free 2;have f3 := hq3.free 3;have f4 := hq3.free 4;simp at u1 u2 u3 u4
        clear z1 z2 z3 z4 d0 d1 r0 r1 hb3 hB3 hq3 hY hOnly hr3 HT;go_upto_region 17 with fail
        clear u1 u2 u3 u4 f1 f2 f3 f4;generalize (r (r (r (r w3 ⟨w.heap.size + 1, 1, U⟩ (E J q0)) ⟨w.heap.size + 1, 2, U⟩ (E J q1)) ⟨w.heap.size + 1, 3, U⟩ (E J q2)) ⟨w.heap.size + 1, 4, U⟩ (E J q3)) = Y at *;have hYl := HY.out.1.lt;have hYr := HY.out.2.1.lt
        have HK : Q (∀ w', Z Y.heap.size Y w' → ((w'.cell? ⟨wo.heap.size, 1, U⟩ = some (E J yd) ∧ w'.cell? ⟨w.heap.size + 1, 6, U⟩ = some (G da2 nd2 dc2) ∧ w'.frozen? ⟨w.heap.size + 1, 6, U⟩ = false) ∧ zk 1 zv w' da2 dn2 ∧ nd2 = dn2.length)) := fun w' hb =>
         ⟨⟨(HY.out.2.1.below hb hYr).cell 1, (HY.out.1.below hb hYl).cell 6, (HY.out.1.below hb hYl).free 6⟩, ((HY.out.2.2.2.1.below hb (kaa _)).at zai).1, (HY.out.2.2.2.1.at zai).2.1⟩
        obtain ⟨⟨i1, i6, i7⟩, -⟩ := HK.out _ (kab _ _);have hYl1 : w.heap.size + 1 < Y.heap.size + 1 := by omega
        have hYr1 : wo.heap.size < Y.heap.size + 1 := by omega
        go_region_law (
         first
         | (refine zeu zai zcx Try.underlying36 zcn rfl (by decide) _ rfl (.tmp 51) (.tmp 53) rfl Y.heap.size (G (some ⟨Y.heap.size, 0, U⟩) 0 0) [] rfl (by first | exact zd.made0 (Blk.drew (Blk.new _ _ _)) (by simp <;> omega) | exact zd.made0 (Blk.drew ((Blk.new _ _ _).alloc _)) (by simp <;> omega) | exact zd.made0 (Blk.drew (zaq _ _ _)) (by simp <;> omega)) da2 nd2 dc2 dn2 rfl (HK.out _ (kab _ _)).2.2 (HK.out _ (by first | exact ((kab _ _).alloc (by simp <;> omega) _).drew | exact (((kab _ _).alloc (by simp <;> omega) _).alloc (by simp <;> omega) _).drew)).2.1 (by unfold maxLen; simp; omega) (by simp; omega) (by simp <;> omega) ?_; intro a5 n5 c5 w5 qv hn5 jJ hat5; have hB5 : Z Y.heap.size Y w5 := (by first | exact (((kab _ _).alloc (by simp <;> omega) _).drew).grown jJ (by simp <;> omega) (fun k hk => by cases hk; simp) | exact ((((kab _ _).alloc (by simp <;> omega) _).alloc (by simp <;> omega) _).drew).grown jJ (by simp <;> omega) (fun k hk => by cases hk; simp)); obtain ⟨⟨j1, j6, j7⟩, -⟩ := HK.out _ hB5; have HO5 : Q (zd 3 1 zv w5 Y.heap.size (G a5 n5 c5) dn2) := qv; have hs5 := hB5.size; clear qv hn5 hat5)
         | (refine zeu zai zcx Try.underlying36 zcn rfl (by decide) _ rfl (.tmp 51) (.tmp 53) rfl Y.heap.size (G (some ⟨Y.heap.size + 1, 0, U⟩) 0 0) [] rfl (by first | exact zd.made0 (Blk.drew (Blk.new _ _ _)) (by simp <;> omega) | exact zd.made0 (Blk.drew ((Blk.new _ _ _).alloc _)) (by simp <;> omega) | exact zd.made0 (Blk.drew (zaq _ _ _)) (by simp <;> omega)) da2 nd2 dc2 dn2 rfl (HK.out _ (kab _ _)).2.2 (HK.out _ (by first | exact ((kab _ _).alloc (by simp <;> omega) _).drew | exact (((kab _ _).alloc (by simp <;> omega) _).alloc (by simp <;> omega) _).drew)).2.1 (by unfold maxLen; simp; omega) (by simp; omega) (by simp <;> omega) ?_; intro a5 n5 c5 w5 qv hn5 jJ hat5; have hB5 : Z Y.heap.size Y w5 := (by first | exact (((kab _ _).alloc (by simp <;> omega) _).drew).grown jJ (by simp <;> omega) (fun k hk => by cases hk; simp) | exact ((((kab _ _).alloc (by simp <;> omega) _).alloc (by simp <;> omega) _).drew).grown jJ (by simp <;> omega) (fun k hk => by cases hk; simp)); obtain ⟨⟨j1, j6, j7⟩, -⟩ := HK.out _ hB5; have HO5 : Q (zd 3 1 zv w5 Y.heap.size (G a5 n5 c5) dn2) := qv; have hs5 := hB5.size; clear qv hn5 hat5)
         | (refine zeu zai zcx Try.underlying36 zcn rfl (by decide) _ rfl (.tmp 54) (.tmp 57) rfl Y.heap.size (G a5 n5 c5) dn2 rfl (by first | exact HO5.out | exact HO5.out.below (zi w5 _) (kaa _)) _ 1 1 [yd] rfl rfl (by first | exact zk.one (Blk.new _ _ _) (by simp [zv]) | exact zk.one (Blk.keptNe jJ (Blk.drew (zaq _ _ _)) (by simp [Value.ownBlock])) (by simp [zv]) | exact zk.one (Blk.keptNe jJ (Blk.drew ((Blk.new _ _ _).alloc _)) (by simp [Value.ownBlock])) (by simp [zv])) (by unfold maxLen; simp; omega) (by simp; omega) (by first | exact hs5 | (simp; omega)) ?_; intro a6 n6 c6 w6 j8 hn6 jk hat6; have hB6 : Z Y.heap.size Y w6 := (by first | exact hB5.grown jk hs5 HO5.out.base | exact (hB5.alloc hs5 _).grown jk (by simp; omega) HO5.out.base); obtain ⟨⟨m1, m6, m7⟩, -⟩ := HK.out _ hB6; have HO6 : Q (zd 3 1 zv w6 Y.heap.size (G a6 n6 c6) (dn2 ++ [yd])) := j8; clear j8 hn6 hat6))
        all_goals
         have HF : Q (zgz PP W (r w6 ⟨w.heap.size + 1, 6, U⟩ (G a6 n6 c6)) (w.heap.size + 1) (G (some ⟨b, o, U⟩) n cap) (G av nv cv) rest (.bool true) (w.heap.size + 2) (G (some ⟨g, og, U⟩) nr rc) (zbr 2 yd (t0, t1, t2, t3) dn2 (DD.take (j + 1)))) := by
          have hb6 := HY.out.1.below hB6 hYl;rw [HSJ.out, HST.out];exact ⟨(HY.out.2.2.2.2.trans (zg.ofBelow hB6 (fun k h1 h2 => absurd h1 (by omega)))).setCell (Or.inl rfl) _, (HY.out.2.2.1.below hB6 (kaa _)).setOther (a := ⟨w.heap.size + 1, 6, U⟩) hb6 (by decide) _, HZ.out.1, HZ.out.2.2, rfl, a6, n6, c6, hb6.set 6 _, (HO6.out.mono (by omega)).setOther (a := ⟨w.heap.size + 1, 6, U⟩) hb6 (by decide) _⟩
         clear i1 i6 i7 j1 j6 j7 m1 m6 m7 jJ jk;go_wp2;go_roundw
         case rel => exact ⟨j + 1, _, by omega, by go_num, HF⟩
         case measure => simp [intOf]; omega
       ·have k2' : (kd == 2) = false := by simpa using k2
        by_cases k3 : kd = 3
        ·subst k3
         have HST : Q (zbn 3 yd (rD, false, (t0, t1, t2, t3), dn2) (yd, yl) = (rD, true, (t0, t1, t2, t3), dn2)) := by show _ = _; simp [zbn]
         have HF : Q (zgz PP W (wr.alloc (T #[E J yd, G ya ny yc] 70)) (w.heap.size + 1) (G (some ⟨b, o, U⟩) n cap) (G av nv cv) rest (.bool true) (w.heap.size + 2) (G (some ⟨g, og, U⟩) nr rc) (zbr 3 yd (t0, t1, t2, t3) dn2 (DD.take (j + 1)))) := by
          rw [HSJ.out, HST.out];exact ⟨HO.out.2.2.alloc _, HO.out.1.below (zi _ _) (kaa _), HZ.out.1, HZ.out.2.2, rfl, da2, nd2, dc2, HQB.out.1.alloc _, HQB.out.2.below (zi _ _) (kaa _)⟩
         go_wp2;go_roundw
         case rel => exact ⟨j + 1, _, by omega, by go_num, HF⟩
         case measure => simp [intOf]; omega
        ·have k3' : (kd == 3) = false := by simpa using k3
         have HST : zbn kd yd (rD, false, (t0, t1, t2, t3), dn2) (yd, yl) = (rD ++ [(yd, yl)], true, (t0, t1, t2, t3), dn2) := by simp [zbn, k2, k3]
         have HST' := zA HST;clear k2 k3 HST;go_wp2_with (at_builtin; refine zbj zdz oneD Try.underlying40 zhq rfl (by decide) _ rfl _ _ rfl W.heap.size _ rest rfl (HO.out.1.below (za2 wr _ _) (kaa _)) (some ⟨wr.heap.size + 1, 0, U⟩) 1 1 [(yd, (ya, yc), yl)] rfl rfl (zk.one (zaq wr _ _) (by simp [zc1, HYL.out])) (by have := HO.out.2.1; unfold maxLen; simp; omega) (by have := HO.out.2.1; simp; omega) (by have := HO.out.2.2.size; simp; omega) ?_; intro a4 n4 c4 w4 jv hn4 jy jQ; clear hn4 jQ)
         have hgT := HO.out.1.below (za2 wr (T #[E J yd, G ya ny yc] 70) (T #[E J yd, G ya ny yc] 70)) (kaa _)
         have HF : Q (zgz PP W w4 (w.heap.size + 1) (G (some ⟨b, o, U⟩) n cap) (G a4 n4 c4) (rest ++ [(yd, (ya, yc), yl)]) (.bool true) (w.heap.size + 2) (G (some ⟨g, og, U⟩) nr rc) (zbr kd yd (t0, t1, t2, t3) dn2 (DD.take (j + 1)))) := by
          rw [HSJ.out, HST'.out];exact ⟨((HO.out.2.2.alloc _).alloc _).trans (zg.ofGrown jy (fun k hk => Or.inr (hgT.base k hk))), jv, (fun x hx => by rcases List.mem_append.1 hx with hx | hx; exact HZ.out.1 x hx; rw [List.mem_singleton.1 hx]; exact HZ.out.2.1), (by rw [List.map_append, HZ.out.2.2]; rfl), rfl, da2, nd2, dc2, ((HQB.out.1.alloc _).alloc _).keptT jy (hgT.grownT (by decide)), (HQB.out.2.below (za2 wr _ _) (kaa _)).keptT jy (hgT.grownT (by decide))⟩
         clear hgT jy jv;go_wp2;go_roundw
         case rel => exact ⟨j + 1, _, by omega, by go_num, HF⟩
         case measure => simp [intOf]; omega
     ·have hyd' : (yd == dd) = false := by simpa using hyd
      have HST : Q (zbn kd dd (rD, wb, (t0, t1, t2, t3), dn2) (yd, yl) = (rD ++ [(yd, yl)], wb, (t0, t1, t2, t3), dn2)) := by show _ = _; unfold zbn; rw [if_pos (Or.inl hyd)]
      have hyd2 : (yd != dd) = true := by simpa using hyd
      clear hyd';go_wp2_with (at_builtin; refine zbj zdz oneD Try.underlying40 zhq rfl (by decide) _ rfl _ _ rfl W.heap.size _ rest rfl (HO.out.1.below (za2 wr _ _) (kaa _)) (some ⟨wr.heap.size + 1, 0, U⟩) 1 1 [(yd, (ya, yc), yl)] rfl rfl (zk.one (zaq wr _ _) (by simp [zc1, HYL.out])) (by have := HO.out.2.1; unfold maxLen; simp; omega) (by have := HO.out.2.1; simp; omega) (by have := HO.out.2.2.size; simp; omega) ?_; intro a4 n4 c4 w4 jv hn4 jy jQ; clear hn4 jQ)
      have hgT := HO.out.1.below (za2 wr (T #[E J yd, G ya ny yc] 70) (T #[E J yd, G ya ny yc] 70)) (kaa _)
      have HF : Q (zgz PP W w4 (w.heap.size + 1) (G (some ⟨b, o, U⟩) n cap) (G a4 n4 c4) (rest ++ [(yd, (ya, yc), yl)]) (.bool wb) (w.heap.size + 2) (G (some ⟨g, og, U⟩) nr rc) (zbr kd dd (s0, s1, s2, s3) dn (DD.take (j + 1)))) := by
       rw [HSJ.out, HST.out];exact ⟨((HO.out.2.2.alloc _).alloc _).trans (zg.ofGrown jy (fun k hk => Or.inr (hgT.base k hk))), jv, (fun x hx => by rcases List.mem_append.1 hx with hx | hx; exact HZ.out.1 x hx; rw [List.mem_singleton.1 hx]; exact HZ.out.2.1), (by rw [List.map_append, HZ.out.2.2]; rfl), rfl, da2, nd2, dc2, ((HQB.out.1.alloc _).alloc _).keptT jy (hgT.grownT (by decide)), (HQB.out.2.below (za2 wr _ _) (kaa _)).keptT jy (hgT.grownT (by decide))⟩
      clear hgT jy jv;go_wp2;go_roundw
      case rel => exact ⟨j + 1, _, by omega, by go_num, HF⟩
      case measure => simp [intOf]; omega
    ·have hjn : j = nr := by omega
     have hfull : DD.take j = DD := List.take_of_length_le (by
      have h1 := HP.out.2.2.1;have h2 := congrArg List.length HP.out.2.1;simp at h2
      omega)
     obtain ⟨hK, hO, hPt, hSay, rfl, da2, nd2, dc2, hBq, hIq⟩ := hIn.out;rw [hfull] at hSay hBq hIq ⊢
     have jw := zj1 kd dd DD ([], false, (s0, s1, s2, s3), dn);change (zbr kd dd (s0, s1, s2, s3) dn DD).1.length ≤ _ ∧ _ at jw
     have HSK : Q (ze ((X.take (k + 1)).map zf) = ((zbr kd dd (s0, s1, s2, s3) dn DD).2.2.1, if kd = 1 ∧ (zbr kd dd (s0, s1, s2, s3) dn DD).2.1 = false then (zbr kd dd (s0, s1, s2, s3) dn DD).1 ++ [(dd, l)] else (zbr kd dd (s0, s1, s2, s3) dn DD).1, (zbr kd dd (s0, s1, s2, s3) dn DD).2.2.2)) := HS.out;have hDl : DD.length ≤ k := HP.out.2.2.2.2.2.1.few;generalize zbr kd dd (s0, s1, s2, s3) dn DD = I at *;obtain ⟨rD, wb, ⟨t0, t1, t2, t3⟩, dn2⟩ := I;simp only [List.length_nil, Nat.zero_add] at hSay hBq hIq HSK jw
     have hrlen : rest.length = rD.length := by rw [← hSay, List.length_map]
     have hrr := HA.out.2.1.keep hK (by omega)
     obtain ⟨av, nv, cv, rfl⟩ : ∃ a n c, u6 = G a n c := by
      obtain ⟨a, c, hv, _⟩ := hO.row zdz;exact ⟨a, _, c, hv⟩
     have hBs : Blk (r wr ⟨w.heap.size + 1, 5, U⟩ (G av nv cv)) (w.heap.size + 1) #[G (some ⟨b, o, U⟩) n cap, E J t0, E J t1, E J t2, E J t3, G av nv cv, G da2 nd2 dc2] 100 := hBq.set 5 _;have hBel := HA.out.2.2.2.2.trans (hK.below (by omega) (fun k hk => by omega))
     have HS5 : Q (Blk (r wr ⟨w.heap.size + 1, 5, U⟩ (G av nv cv)) (w.heap.size + 1) #[G (some ⟨b, o, U⟩) n cap, E J t0, E J t1, E J t2, E J t3, G av nv cv, G da2 nd2 dc2] 100 ∧ Blk (r wr ⟨w.heap.size + 1, 5, U⟩ (G av nv cv)) wo.heap.size #[E J kd, E J dd, G ax nl cx] 68 ∧ zd 70 2 zc1 (r wr ⟨w.heap.size + 1, 5, U⟩ (G av nv cv)) (w.heap.size + 2) (G av nv cv) rest ∧ (∀ x ∈ rest, PP x.2.1.1 x.2.2) ∧ rest.map zba = rD ∧ zd 3 1 zv (r wr ⟨w.heap.size + 1, 5, U⟩ (G av nv cv)) (w.heap.size + 2) (G da2 nd2 dc2) dn2 ∧ Z (w.heap.size + 1) V (r wr ⟨w.heap.size + 1, 5, U⟩ (G av nv cv))) :=
      ⟨hBs, hrr.setOther (a := ⟨w.heap.size + 1, 5, U⟩) (by simp; omega) _, (hO.mono (by omega)).setOther (a := ⟨w.heap.size + 1, 5, U⟩) hBq (by decide) _, hPt, hSay, hIq.setOther (a := ⟨w.heap.size + 1, 5, U⟩) hBq (by decide) _, hBel.setCell (kaa _) _⟩
     have y5 := hBq.cell 5;have f5 := hBq.free 5;simp at y5
     have hws : w.heap.size + 2 ≤ (r wr ⟨w.heap.size + 1, 5, U⟩ (G av nv cv)).heap.size := by have := hK.size; simp; omega
     have hr1 : rest.length + 1 ≤ n := by omega
     clear hIn hK hO hPt hSay hBq hIq hrr hBs hBel jw hrlen hDl hfull;go_upto_region 21 with fail
     clear y5 f5;generalize r wr ⟨w.heap.size + 1, 5, U⟩ (G av nv cv) = S at *;have hSl := HS5.out.1.lt;have hSr := HS5.out.2.1.lt;have r0 := HS5.out.2.1.cell 0;simp at r0
     by_cases k1 : kd = 1 ∧ wb = false
     ·obtain ⟨rfl, rfl⟩ := k1
      rw [if_pos ⟨rfl, rfl⟩] at HSK;have r1 := HS5.out.2.1.cell 1;have r2 := HS5.out.2.1.cell 2;have g5 := HS5.out.1.cell 5;simp at r1 r2 g5
      go_wp2_with (at_builtin; refine zbj zdz oneD Try.underlying40 zhq rfl (by decide) _ rfl _ _ rfl (w.heap.size + 2) _ rest rfl (HS5.out.2.2.1.below (zi S _) (kaa _)) (some ⟨S.heap.size, 0, U⟩) 1 1 [(dd, (ax, cx), l)] rfl rfl (zk.one (Blk.new S _ _) (by simp [zc1, HLL.out])) (by unfold maxLen; simp; omega) (by simp; omega) (by simp; omega) ?_; intro a4 n4 c4 w4 jv hn4 jy jQ; have hK4 := (HS5.out.1.alloc _).keptT jy ((HS5.out.2.2.1.below (zi S _) (kaa _)).grownT (by decide)); have j5 := hK4.cell 5; have j5' := hK4.free 5; simp at j5; have HK4 : Q (Blk w4 (w.heap.size + 1) #[G (some ⟨b, o, U⟩) n cap, E J t0, E J t1, E J t2, E J t3, G av nv cv, G da2 nd2 dc2] 100) := hK4; clear hK4 hn4 jQ)
      have hgT := HS5.out.2.2.1.below (zi S (T #[E J dd, G ax nl cx] 70)) (kaa _)
      have HF : Q (RAt PP (w.heap.size + 1) (w.heap.size + 2) (G (some ⟨b, o, U⟩) n cap) (r w4 ⟨w.heap.size + 1, 5, U⟩ (G a4 n4 c4)) ((t0, t1, t2, t3), rD ++ [(dd, l)], dn2) ∧ Z (w.heap.size + 1) V (r w4 ⟨w.heap.size + 1, 5, U⟩ (G a4 n4 c4)) ∧ w.heap.size + 2 ≤ (r w4 ⟨w.heap.size + 1, 5, U⟩ (G a4 n4 c4)).heap.size) := by
       refine ⟨⟨a4, n4, c4, rest ++ [(dd, (ax, cx), l)], da2, nd2, dc2, HK4.out.set 5 _, jv.setOther (a := ⟨w.heap.size + 1, 5, U⟩) HK4.out (by decide) _, ?_, ?_, ?_⟩, ?_, ?_⟩
       ·intro x hx
        rcases List.mem_append.1 hx with hx | hx
        ·exact HS5.out.2.2.2.1 x hx
        ·rw [List.mem_singleton.1 hx]; exact HP.out.2.2.2.1
       ·rw [List.map_append, HS5.out.2.2.2.2.1]; rfl
       ·exact ((HS5.out.2.2.2.2.2.1.below (zi S _) (kaa _)).keptT jy (hgT.grownT (by decide))).setOther (a := ⟨w.heap.size + 1, 5, U⟩) HK4.out (by decide) _
       ·exact ((HS5.out.2.2.2.2.2.2.alloc (by omega) _).grown jy (by simp; omega) (fun k hk => by have := hgT.base k hk; omega)).setCell (kaa _) _
       ·have := jy.size
        simp at this ⊢
        omega
      clear hgT jy jv r0 r1 r2 g5 HK4;go_wp2;go_roundw
      case rel => exact ⟨k + 1, by omega, by go_num, by rw [HSK.out]; exact HF.out⟩
      case measure => simp [intOf]; omega
     ·rw [if_neg k1] at HSK
      have HF : Q (RAt PP (w.heap.size + 1) (w.heap.size + 2) (G (some ⟨b, o, U⟩) n cap) S ((t0, t1, t2, t3), rD, dn2) ∧ Z (w.heap.size + 1) V S ∧ w.heap.size + 2 ≤ S.heap.size) := ⟨⟨av, nv, cv, rest, da2, nd2, dc2, HS5.out.1, HS5.out.2.2.1, HS5.out.2.2.2.1, HS5.out.2.2.2.2.1, HS5.out.2.2.2.2.2.1⟩, HS5.out.2.2.2.2.2.2, hws⟩;by_cases k2 : kd = 1
      ·subst k2
       have hwb : wb = true := by cases wb; exact absurd ⟨rfl, rfl⟩ k1; rfl
       subst hwb;clear k1;go_wp2;go_roundw
       case rel => exact ⟨k + 1, by omega, by go_num, by rw [HSK.out]; exact HF.out⟩
       case measure => simp [intOf]; omega
      ·have k2' : (kd == 1) = false := by simpa using k2
       clear k1 k2;go_wp2;go_roundw
       case rel => exact ⟨k + 1, by omega, by go_num, by rw [HSK.out]; exact HF.out⟩
       case measure => simp [intOf]; omega
  ·have hkn : k = n := by omega
   have hfull : (X.take k).map zf = X.map zf := by rw [List.take_of_length_le (by have := HN.out.1; omega)]
   obtain ⟨hRA, hB1, hsw⟩ := hH.out;rw [hfull] at hRA;obtain ⟨ra, nr, rc, XR, da, nd, dc, hB, hR, hT, hD, hI⟩ := hRA;have hN := HV.out.1.below hB1 (by omega);generalize hhb : ze (X.map zf) = h at *;have HHB := zA hhb;clear hhb hH hfull;obtain ⟨⟨t0, t1, t2, t3⟩, DD, dn⟩ := h;simp only at hB hD hI
   obtain ⟨hW, hOnly⟩ := fill7 hN (G a n cap) (E J t0) (E J t1) (E J t2) (E J t3) (G ra nr rc) (G da nd dc);have hBw0 := HV.out.2.trans (hB1.mono (by omega))
   have hBW : Z w.heap.size w (r (r (r (r (r (r (r wr ⟨w.heap.size, 0, U⟩ (G a n cap)) ⟨w.heap.size, 1, U⟩ (E J t0)) ⟨w.heap.size, 2, U⟩ (E J t1)) ⟨w.heap.size, 3, U⟩ (E J t2)) ⟨w.heap.size, 4, U⟩ (E J t3)) ⟨w.heap.size, 5, U⟩ (G ra nr rc)) ⟨w.heap.size, 6, U⟩ (G da nd dc)) :=
    (((((((hBw0).setCell (kaa _) _).setCell (kaa _) _).setCell (kaa _) _).setCell (kaa _) _).setCell (kaa _) _).setCell (kaa _) _).setCell (kaa _) _
   have HF : Q (ziq PP w.heap.size (r (r (r (r (r (r (r wr ⟨w.heap.size, 0, U⟩ (G a n cap)) ⟨w.heap.size, 1, U⟩ (E J t0)) ⟨w.heap.size, 2, U⟩ (E J t1)) ⟨w.heap.size, 3, U⟩ (E J t2)) ⟨w.heap.size, 4, U⟩ (E J t3)) ⟨w.heap.size, 5, U⟩ (G ra nr rc)) ⟨w.heap.size, 6, U⟩ (G da nd dc)) (.agg #[G a n cap, E J t0, E J t1, E J t2, E J t3, G ra nr rc, G da nd dc]) (G a n cap) ((t0, t1, t2, t3), DD, dn)) :=
    ⟨ra, nr, rc, XR, da, nd, dc, rfl, (hR.only hOnly (by decide)).mono (by omega), hT, hD, (hI.only hOnly (by decide)).mono (by omega)⟩
   have HBlk : Q _ := And.intro hW hBW;have b0 := hB.cell 0;have b1 := hB.cell 1;have b2 := hB.cell 2;have b3 := hB.cell 3;have b4 := hB.cell 4;have b5 := hB.cell 5;have b6 := hB.cell 6;have n0 := hN.cell 0;have n1 := hN.cell 1;have n2 := hN.cell 2;have n3 := hN.cell 3;have n4 := hN.cell 4;have n5 := hN.cell 5;have n6 := hN.cell 6;have f0 := hN.free 0;have f1 := hN.free 1;have f2 := hN.free 2;have f3 := hN.free 3;have f4 := hN.free 4;have f5 := hN.free 5;have f6 := hN.free 6;simp at b0 b1 b2 b3 b4 b5 b6 n0 n1 n2 n3 n4 n5 n6
   clear hW hBW hOnly hB hN hR hT hD hI hBw0;go_wp2_with fail
   clear b0 b1 b2 b3 b4 b5 b6 n0 n1 n2 n3 n4 n5 n6 f0 f1 f2 f3 f4 f5 f6;have e0 := Blk.cell HBlk.out.1 0;have e1 := Blk.cell HBlk.out.1 1;have e2 := Blk.cell HBlk.out.1 2;have e3 := Blk.cell HBlk.out.1 3;have e4 := Blk.cell HBlk.out.1 4;have e5 := Blk.cell HBlk.out.1 5;have e6 := Blk.cell HBlk.out.1 6;simp only [List.getElem?_toArray, List.getElem?_cons_zero, List.getElem?_cons_succ] at e0 e1 e2 e3 e4 e5 e6
   refine bodyPost_ret (v := .agg #[G a n cap, E J t0, E J t1, E J t2, E J t3, G ra nr rc, G da nd dc]) ?_ rfl ⟨_, rfl, by rw [HHB.out]; exact HF.out, HBlk.out.2⟩;simp [results, Try.results82, go_sem, e0, e1, e2, e3, e4, e5, e6]
theorem ziq.at {PP : Option Addr → List P3 → Prop} {w : World} {base : Nat} {v : Value} {a : Option Addr} {X : List XL} {n cap : Nat} {h : H3} (hh : ziq PP base w v (G a n cap) h) (hn : n = X.length) (hp : zcc w a X) (hb : ∀ a l, PP a l → zal w a l) : zez w v (X.map zf) h := by
 obtain ⟨ra, nr, rc, XR, da, nd, dc, hv, hR, hT, hD, hI⟩ := hh;have k2 := hR.at zdz;have k3 := hI.at zai;exact ⟨a, n, cap, X, ra, nr, rc, XR, da, nd, dc, hv, ⟨by rw [List.length_map]; exact hn, rfl, hp⟩, ⟨k2.2.1, hD, k2.1, fun x hx => hb _ _ (hT x hx)⟩, k3.2.1, by rw [k3.2.1]; exact k3.2.2.1, k3.2.2.2, k3.1⟩
end Go.Proofs.Ytpcnlifmkhagkaa
