import Derived.Test.YtpcnlifmkhagkaaKARegK
import Derived.Test.YtpcnlifmkhagkaaKAJ15
set_option maxRecDepth 20000
set_option maxHeartbeats 20000000
namespace Go.Proofs.Ytpcnlifmkhagkaa
open Go.RowKit
open Go.Value renaming slice → G, int → E
open Go.IntKind renaming i64 → J
open _root_.Option renaming none → U
open Go.Obj renaming cells → T
open Go.RowKit renaming Hid → Q, Below → Z
open Go.World renaming setCell → r
open _root_.Nat renaming le_refl → kaa
open _root_.List renaming getElem?_toArray → kab, getElem?_cons_zero → kac, getElem?_cons_succ → kae
open Go.Value renaming ownBlock → kad
attribute [local go_sem ↓] Go.wp_at_zero Go.wp_at_succ
structure zbv (w0 : World) (la : Option Addr) (nl lc : Nat) (bt nx : Int) (oa : Option Addr) (no oc : Nat) (B : Nat) (a2 : Option Addr) (c2 : Nat) (Y2 : List XL) (L : List R3) (w : World) (a3 : Option Addr) (n3 c3 : Nat) (X2 : List XO) (O : List O4) : Prop where
 hb : Blk w w0.heap.size #[G la nl lc, E J bt, E J nx, G oa no oc] 29
 rb : Blk w (w0.heap.size + 1) #[G U 0 0, E J 0, E J 0, G U 0 0] 29
 ob : Blk w B #[G a2 nl c2, E J bt, E J nx, G a3 n3 c3] 29
 hd : zbh w (w0.heap.size + 2) a2 nl c2 Y2 a3 n3 c3 X2 L O
 bel : Z w0.heap.size w0 w
 ne : w0.heap.size + 2 ≤ B
section
variable {w0 w w' : World} {la : Option Addr} {nl lc : Nat} {bt nx : Int} {oa : Option Addr} {no oc : Nat} {B : Nat} {a2 : Option Addr} {c2 : Nat} {Y2 : List XL} {L : List R3} {a3 : Option Addr} {n3 c3 : Nat} {X2 : List XO} {O : List O4}
theorem zbv.below (H : zbv w0 la nl lc bt nx oa no oc B a2 c2 Y2 L w a3 n3 c3 X2 O) (hb : Z w.heap.size w w') : zbv w0 la nl lc bt nx oa no oc B a2 c2 Y2 L w' a3 n3 c3 X2 O :=
 ⟨H.hb.below hb H.hb.lt, H.rb.below hb H.rb.lt, H.ob.below hb H.ob.lt, H.hd.below hb, H.bel.trans (hb.mono H.bel.size), H.ne⟩
theorem zbv.box (H : zbv w0 la nl lc bt nx oa no oc B a2 c2 Y2 L w a3 n3 c3 X2 O) {N i : Nat} {cs : Array Value} (hb : Blk w N cs 38) (hne : kad (G a3 n3 c3) ≠ some N) (h0 : w0.heap.size + 2 ≤ N) (hB : N ≠ B) (u : Value) : zbv w0 la nl lc bt nx oa no oc B a2 c2 Y2 L (r w ⟨N, i, U⟩ u) a3 n3 c3 X2 O :=
 ⟨H.hb.setOther (a := ⟨N, i, U⟩) (by simp; omega) _, H.rb.setOther (a := ⟨N, i, U⟩) (by simp; omega) _, H.ob.setOther (a := ⟨N, i, U⟩) (by simpa using Ne.symm hB) _, H.hd.box hb hne u, H.bel.setCell (by simp; omega) _, H.ne⟩
theorem zbv.push (H : zbv w0 la nl lc bt nx oa no oc B a2 c2 Y2 L w a3 n3 c3 X2 O) {w4 : World} (hg : w.grownBy w4 (kad (G a3 n3 c3))) {a4 : Option Addr} {n4 c4 : Nat} {z : XO} (h4 : zd 38 4 zan w4 (w0.heap.size + 2) (G a4 n4 c4) (X2 ++ [z])) (hp : zam (w0.heap.size + 2) w z.2.1.1.1 z.2.1.2) (hi : zd1 (w0.heap.size + 2) w z.2.2.2.1.1 z.2.2.2.2) :
  zbv w0 la nl lc bt nx oa no oc B a2 c2 Y2 L (r w4 ⟨B, 3, U⟩ (G a4 n4 c4)) a4 n4 c4 (X2 ++ [z]) (O ++ [zz z]) := by
 have hne : ∀ b, b < w0.heap.size + 2 → kad (G a3 n3 c3) ≠ some b := fun b hb e => by have := H.hd.opn.base _ e; omega
 have o4 := H.ob.keptT hg (H.hd.opn.grownT (by decide));have hB := H.ne;exact ⟨(H.hb.keptNe hg (hne _ (by omega))).setOther (a := ⟨B, 3, U⟩) (by simp; omega) _, (H.rb.keptNe hg (hne _ (by omega))).setOther (a := ⟨B, 3, U⟩) (by simp; omega) _, o4.set 3 _, (H.hd.push hg h4 hp hi).set o4 (by decide) (by decide) (by decide) (by decide) _, (H.bel.grown hg H.bel.size (fun k hk => by have := H.hd.opn.base _ hk; omega)).setCell (by simp; omega) _, hB⟩
end
theorem zgd (la oa : Option Addr) (nl lc no oc : Nat) (bt nx : Int) (Y : List XL) (X : List XO) (L : List R3) (O : List O4) (w : World) (H : zbk (fun _ => False) w la nl Y oa no X L O) (hf : zcd O) (hok : OkL L) (hl : L.length ≤ 900000) :
  Calls Try.prog 15 #[.agg #[G la nl lc, E J bt, E J nx, G oa no oc]] w fun e w' => ∃ v', e = .returned v' ∧ (∃ a2 n2 c2 Y2 a3 n3 c3 X2, v' = .agg #[G a2 n2 c2, E J bt, E J nx, G a3 n3 c3] ∧ zbh w' w.heap.size a2 n2 c2 Y2 a3 n3 c3 X2 L O ∧ zb1 w' w.heap.size X2) ∧ Z w.heap.size w w' := by
 have hXO : X.length = O.length := by rw [← H.osays, List.length_map]
 have hYl : Y.length ≤ 900000 := by rw [← H.says, List.length_map] at hl; exact hl
 have hnl : no ≤ 100000 := by have h1 := H.on; have h2 := hf.1; omega
 have hbX := za2 w (T #[G la nl lc, E J bt, E J nx, G oa no oc] 29) (T #[G U 0 0, E J 0, E J 0, G U 0 0] 29);have hN0 : Blk ((w.alloc (T #[G la nl lc, E J bt, E J nx, G oa no oc] 29)).alloc (T #[G U 0 0, E J 0, E J 0, G U 0 0] 29)) w.heap.size #[G la nl lc, E J bt, E J nx, G oa no oc] 29 := (Blk.new _ _ _).alloc _;have hN1 : Blk ((w.alloc (T #[G la nl lc, E J bt, E J nx, G oa no oc] 29)).alloc (T #[G U 0 0, E J 0, E J 0, G U 0 0] 29)) (w.heap.size + 1) #[G U 0 0, E J 0, E J 0, G U 0 0] 29 := zaq _ _ _;have hsX : ((w.alloc (T #[G la nl lc, E J bt, E J nx, G oa no oc] 29)).alloc (T #[G U 0 0, E J 0, E J 0, G U 0 0] 29)).heap.size = w.heap.size + 2 := by simp
 have H1 := H.below hbX;have hrec : zcc ((w.alloc (T #[G la nl lc, E J bt, E J nx, G oa no oc] 29)).alloc (T #[G U 0 0, E J 0, E J 0, G U 0 0] 29)) la Y := ⟨H1.log, fun y hy => (H1.parts y hy).1⟩;go_enter Try.func15, Try.ntmps15
 go_upto_region 1 with fail
 generalize ((w.alloc (T #[G la nl lc, E J bt, E J nx, G oa no oc] 29)).alloc (T #[G U 0 0, E J 0, E J 0, G U 0 0] 29)) = V at *;have HG := zE H1 hf hok hrec hYl;have HV := zE hbX hN0 hN1 hsX hXO;have HW := zD hXO hf H.on H;clear H hf hok hl hbX hN0 hN1 hsX H1 hrec hXO hYl;have hX1 : Z V.heap.size V V.drew := (Below.refl _ _).drew;have hX2 : Z V.heap.size V (V.drew.alloc (T #[G U 0 0, E J 0, E J 0, G U 0 0] 29)) := hX1.alloc (by simp) _;have HK : Q (∀ w', Z V.heap.size V w' → (w'.cell? ⟨w.heap.size, 0, U⟩ = some (G la nl lc) ∧ w'.cell? ⟨w.heap.size, 1, U⟩ = some (E J bt) ∧ w'.cell? ⟨w.heap.size, 2, U⟩ = some (E J nx)) ∧ True) := fun w' hb => ⟨⟨(HV.out.2.1.below hb HV.out.2.1.lt).cell 0, (HV.out.2.1.below hb HV.out.2.1.lt).cell 1, (HV.out.2.1.below hb HV.out.2.1.lt).cell 2⟩, trivial⟩
 go_cut [3] (fun p wx => ∃ (B : Nat) (a2 : Option Addr) (c2 : Nat) (Y2 : List XL), p = .pointer (some ⟨B, 0, U⟩) ∧ Q (V.heap.size ≤ B ∧ Blk wx B #[G a2 nl c2, E J bt, E J nx, G U 0 0] 29 ∧ zdd wx V.heap.size (G a2 nl c2) Y2 ∧ Y2.map zf = L ∧ Z V.heap.size V wx))
 case first =>
  refine zcf (S := fun w' => (w'.cell? ⟨w.heap.size, 0, U⟩ = some (G la nl lc) ∧ w'.cell? ⟨w.heap.size, 1, U⟩ = some (E J bt) ∧ w'.cell? ⟨w.heap.size, 2, U⟩ = some (E J nx))) 9 (by kernel_rfl) (HK.out _ hX1).1 (fun jq => ?_);refine tks 6 [(0, 6), (3, 9), (5, 11), (1, 7), (4, 10), (6, 12)] (b := ?_) rfl (by decide +kernel) (fun _ _ _ _ _ h => h) ?_ jq ?_;rotate_left 1
  ·iterate 6 (refine zaa.cons (v := ?_) rfl rfl (by rfl) ?_ ?_; rotate_left 1; (intro w h; (try dsimp only at h); go_simp; try with_reducible rfl))
   exact zaa.nil
  refine ze6 (rs := [2, 8]) (by kernel_rfl) (by simp) ?_;refine za8.cons (o := _) rfl (fun K hK => ?_) ?_
  ·go_simp
   (go_at_call 31; refine (zj4 la Y lc nl _ HG.out.1.ln (by have := HG.out.2.2.2.2; omega) (by rw [HG.out.1.says]; exact HG.out.2.2.1) ((HG.out.2.2.2.1.below hX1))).mono ?_; rintro e wA ⟨a2, c2, Y2, rfl, hY2, hr2, hbA⟩; have hXA : Z V.heap.size V wA := hX1.trans (hbA.mono hX1.size); have hXAs := hXA.size; have hr2' : zdd wA V.heap.size (G a2 nl c2) Y2 := ⟨hr2.1.mono hX1.size, fun y hy => (hr2.2 y hy).mono hX1.size⟩; have hYL : Y2.map zf = L := (by rw [hY2, HG.out.1.says]))
   go_wp2_with fail
   refine kgo hK (by decide +kernel) ((HK.out _ hXA).1) (fun jq => ?_);clear hK K;refine tks 1 [(7, 13)] (b := ?_) rfl (by decide +kernel) (fun _ _ _ _ _ h => h) ?_ jq ?_;rotate_left 1
   ·iterate 1 (refine zaa.cons (v := ?_) rfl rfl (by rfl) ?_ ?_; rotate_left 1; (intro w h; (try dsimp only at h); go_simp; try with_reducible rfl))
    exact zaa.nil
   refine rdy 8 (by kernel_rfl) rfl (fun K hK => ?_);go_simp;refine kgo hK (by decide +kernel) ((HK.out _ (hXA.alloc hXAs _)).1) (fun jq => ?_);clear hK K;refine rdy 9 (by kernel_rfl) rfl (fun K hK => ?_);go_simp;refine zbb hK (by decide +kernel) ?_;clear hK K jq;refine zbo (by kernel_rfl) ?_ _;have hbb := zi wA (T #[G a2 nl c2, E J bt, E J nx, G U 0 0] 29);have HF : Q (V.heap.size ≤ wA.heap.size ∧ Blk (wA.alloc (T #[G a2 nl c2, E J bt, E J nx, G U 0 0] 29)) wA.heap.size #[G a2 nl c2, E J bt, E J nx, G U 0 0] 29 ∧ zdd (wA.alloc (T #[G a2 nl c2, E J bt, E J nx, G U 0 0] 29)) V.heap.size (G a2 nl c2) Y2 ∧ Y2.map zf = L ∧ Z V.heap.size V (wA.alloc (T #[G a2 nl c2, E J bt, E J nx, G U 0 0] 29))) := ⟨hXAs, Blk.new _ _ _, ⟨hr2'.1.below hbb (kaa _), fun y hy => (hr2'.2 y hy).calm (zj.below hbb (kaa _))⟩, hYL, hXA.alloc hXAs _⟩;clear hbb hr2 hr2' hXA hbA;go_wp2_with fail
   go_meet
   case rel => exact ⟨_, a2, c2, Y2, rfl, HF⟩
  refine za8.cons (o := _) rfl (fun K hK => ?_) za8.nil
  ·go_simp
   refine kgo hK (by decide +kernel) ((HK.out _ hX2).1) (fun jq => ?_);clear hK K;refine rdy 2 (by kernel_rfl) rfl (fun K hK => ?_);go_simp;(go_at_call 31; refine (zj4 la Y lc nl _ HG.out.1.ln (by have := HG.out.2.2.2.2; omega) (by rw [HG.out.1.says]; exact HG.out.2.2.1) ((HG.out.2.2.2.1.below hX2))).mono ?_; rintro e wA ⟨a2, c2, Y2, rfl, hY2, hr2, hbA⟩; have hXA : Z V.heap.size V wA := hX2.trans (hbA.mono hX2.size); have hXAs := hXA.size; have hr2' : zdd wA V.heap.size (G a2 nl c2) Y2 := ⟨hr2.1.mono hX2.size, fun y hy => (hr2.2 y hy).mono hX2.size⟩; have hYL : Y2.map zf = L := (by rw [hY2, HG.out.1.says]))
   go_wp2_with fail
   refine kgo hK (by decide +kernel) ((HK.out _ hXA).1) (fun jq => ?_);clear hK K
   have hzB : Blk wA V.heap.size #[G U 0 0, E J 0, E J 0, G U 0 0] 29 := by
    have h := (Blk.new V.drew #[G U 0 0, E J 0, E J 0, G U 0 0] 29).below hbA (by simp)
    simpa using h
   obtain ⟨z0, z1, z2, z3⟩ := hzB.cells4;obtain ⟨q0, q1, q2, q3⟩ := hzB.free4;have hzl := hzB.lt;refine tks 1 [(7, 13)] (b := ?_) rfl (by decide +kernel) (fun _ _ _ _ _ h => h) ?_ jq ?_;rotate_left 1
   ·iterate 1 (refine zaa.cons (v := ?_) rfl rfl (by rfl) ?_ ?_; rotate_left 1; (intro w h; (try dsimp only at h); go_simp; try with_reducible rfl))
    exact zaa.nil
   refine rdy 9 (by kernel_rfl) rfl (fun K hK => ?_);go_simp;refine zbb hK (by decide +kernel) ?_;clear hK K jq;refine zbo (by kernel_rfl) ?_ _;have hk4 := zct hzB (G a2 nl c2) (E J bt) (E J nx) (G U 0 0)
   have HF : Q (V.heap.size ≤ V.heap.size ∧ Blk (r (r (r (r wA ⟨V.heap.size, 0, U⟩ (G a2 nl c2)) ⟨V.heap.size, 1, U⟩ (E J bt)) ⟨V.heap.size, 2, U⟩ (E J nx)) ⟨V.heap.size, 3, U⟩ (G U 0 0)) V.heap.size #[G a2 nl c2, E J bt, E J nx, G U 0 0] 29 ∧ zdd (r (r (r (r wA ⟨V.heap.size, 0, U⟩ (G a2 nl c2)) ⟨V.heap.size, 1, U⟩ (E J bt)) ⟨V.heap.size, 2, U⟩ (E J nx)) ⟨V.heap.size, 3, U⟩ (G U 0 0)) V.heap.size (G a2 nl c2) Y2 ∧ Y2.map zf = L ∧ Z V.heap.size V (r (r (r (r wA ⟨V.heap.size, 0, U⟩ (G a2 nl c2)) ⟨V.heap.size, 1, U⟩ (E J bt)) ⟨V.heap.size, 2, U⟩ (E J nx)) ⟨V.heap.size, 3, U⟩ (G U 0 0))) := by
    refine ⟨kaa _, hk4.1, ⟨?_, fun y hy => (hr2'.2 y hy).calm ?_⟩, hYL, hXA.trans (hk4.2.below hXAs (fun b hb => by subst hb; exact kaa _))⟩
    ·exact ((((hr2'.1.setOther (a := ⟨V.heap.size, 0, U⟩) hzB (by decide) _).setOther (a := ⟨V.heap.size, 1, U⟩) (hzB.set 0 _) (by decide) _).setOther (a := ⟨V.heap.size, 2, U⟩) ((hzB.set 0 _).set 1 _) (by decide) _).setOther (a := ⟨V.heap.size, 3, U⟩) (((hzB.set 0 _).set 1 _).set 2 _) (by decide) _)
    ·exact (((zj.setCell (a := ⟨V.heap.size, 0, U⟩) hzB (by decide) _).trans (zj.setCell (a := ⟨V.heap.size, 1, U⟩) (hzB.set 0 _) (by decide) _)).trans (zj.setCell (a := ⟨V.heap.size, 2, U⟩) ((hzB.set 0 _).set 1 _) (by decide) _)).trans (zj.setCell (a := ⟨V.heap.size, 3, U⟩) (((hzB.set 0 _).set 1 _).set 2 _) (by decide) _)
   clear hk4 hr2 hr2' hXA hbA hzB z0 z1 z2 z3 q0 q1 q2 q3 hzl;generalize (r (r (r (r wA ⟨V.heap.size, 0, U⟩ (G a2 nl c2)) ⟨V.heap.size, 1, U⟩ (E J bt)) ⟨V.heap.size, 2, U⟩ (E J nx)) ⟨V.heap.size, 3, U⟩ (G U 0 0)) = wZ at *;go_wp2_with fail
   go_meet
   case rel => exact ⟨_, a2, c2, Y2, rfl, HF⟩
 case rest =>
  obtain ⟨B, a2, c2, Y2, rfl, HC⟩ := hcut;clear HK hX1 hX2;have H0 : Q (zbv w la nl lc bt nx oa no oc B a2 c2 Y2 L wc U 0 0 [] ([])) := ⟨HV.out.2.1.below HC.out.2.2.2.2 HV.out.2.1.lt, HV.out.2.2.1.below HC.out.2.2.2.2 HV.out.2.2.1.lt, HC.out.2.1, ⟨by rw [← HV.out.2.2.2.1]; exact HC.out.2.2.1, HC.out.2.2.2.1, zd.nil _ _, rfl, (fun x hx => by cases hx)⟩, HV.out.1.trans (HC.out.2.2.2.2.mono HV.out.1.size), by have h1 := HC.out.1; have h2 := HV.out.2.2.2.1; omega⟩;have x3 := H0.out.hb.cell 3;simp only [kab, kac, kae] at x3
  have l0 := H0.out.hb.lt;clear HC HV HG;go_wp2;clear x3 l0;go_loopw [17] (fun i w' => ∃ (k : Nat) (a3 : Option Addr) (n3 c3 : Nat) (X2 : List XO), k ≤ no ∧ i = E J k ∧ Q (zbv w la nl lc bt nx oa no oc B a2 c2 Y2 L w' a3 n3 c3 X2 (O.take k) ∧ zb1 w' (w.heap.size + 2) X2)) (fun i _ => no - (intOf i).toNat)
  case atStart => exact ⟨0, U, 0, 0, [], Nat.zero_le _, rfl, H0.out, zb1.nil _ _⟩
  case round =>
   obtain ⟨k, a3, n3, c3, X2, hk, rfl, hHP⟩ := hrel;have hH := zA hHP.out.1;have hHD := zA hHP.out.2;clear hHP;by_cases hlt : k < no
   ·have hkX : k < X.length := by have := HW.out.2.2.1; omega
    have hkO : k < O.length := by have := HW.out.1; omega
    have hOk : O[k] = zz X[k] := by
     have : O = X.map zz := HW.out.2.2.2.osays.symm;subst this;rw [List.getElem_map]
    have hfk := HW.out.2.1.2 O[k] (List.getElem_mem hkO);have HT : Q (O.take (k + 1) = O.take k ++ [zz X[k]]) := by show _ = _; rw [zax hkO, hOk]
    have hop := HW.out.2.2.2.oparts _ (List.getElem_mem hkX);obtain ⟨g, o, rfl, hg, d0, d1, d2, d3, hq⟩ := ((HW.out.2.2.2.below hH.out.bel).opns.lies).get hkX;rw [hOk] at hfk;generalize X[k] = x at *;obtain ⟨dd, ⟨⟨pa, pc⟩, l⟩, dec, ⟨ha, hc⟩, hd⟩ := x;simp only [zz] at d0 d1 d2 d3 hfk hop HT
    obtain ⟨ln, hn, HLL⟩ : ∃ ln hn, Q (l.length = ln ∧ hd.length = hn) := ⟨_, _, rfl, rfl⟩;rw [HLL.out.1] at d1;rw [HLL.out.2] at d3;have HQ : Q (zal w pa l ∧ zk 1 zv w ha hd ∧ l.length ≤ 4 ∧ hd.length ≤ 100000 ∧ X2.length ≤ k) := ⟨hop.1.1, hop.2.1, hfk.1, hfk.2, by have h1 := hH.out.hd.osays; rw [← List.length_map (f := zz), h1, List.length_take]; omega⟩;have H1 : Q (zbv w la nl lc bt nx (some ⟨g, o, U⟩) no oc B a2 c2 Y2 L (wr.alloc (T #[E J dd, G pa ln pc, .bool dec, G ha hn hc] 38)) a3 n3 c3 X2 (O.take k) ∧ Blk (wr.alloc (T #[E J dd, G pa ln pc, .bool dec, G ha hn hc] 38)) wr.heap.size #[E J dd, G pa ln pc, .bool dec, G ha hn hc] 38 ∧ kad (G a3 n3 c3) ≠ some wr.heap.size ∧ wr.heap.size ≠ B ∧ w.heap.size + 2 ≤ wr.heap.size) := ⟨hH.out.below (zi wr _), Blk.new _ _ _, hH.out.hd.opn.other (kaa _), by have := hH.out.ob.lt; omega, by have := hH.out.rb.lt; omega⟩;go_upto_region 5 with fail
    have HD1 : Q (zb1 (wr.alloc (T #[E J dd, G pa ln pc, .bool dec, G ha hn hc] 38)) (w.heap.size + 2) X2) := hHD.out.below (zi wr _);clear d0 d1 d2 d3 hg hH hHD hq hop hfk hOk;generalize wr.alloc (T #[E J dd, G pa ln pc, .bool dec, G ha hn hc] 38) = A at *;have b1 := H1.out.2.1.cell 1;simp only [kab, kac, kae] at b1
    have lb := H1.out.2.1.lt;go_wp2_with fail
    clear b1 lb;refine (zg1 pa l pc ln A HLL.out.1.symm (by have := HQ.out.2.2.1; omega) (HQ.out.1.below H1.out.1.bel)).mono ?_;rintro e w2 ⟨a5, c5, rfl, hT5, hb5⟩;have hx2 := H1.out.2.1.below hb5 H1.out.2.1.lt;have H3 : Q (zbv w la nl lc bt nx (some ⟨g, o, U⟩) no oc B a2 c2 Y2 L (r w2 ⟨wr.heap.size, 1, U⟩ (G a5 ln c5)) a3 n3 c3 X2 (O.take k) ∧ Blk (r w2 ⟨wr.heap.size, 1, U⟩ (G a5 ln c5)) wr.heap.size #[E J dd, G a5 ln c5, .bool dec, G ha hn hc] 38 ∧ zam (w.heap.size + 2) (r w2 ⟨wr.heap.size, 1, U⟩ (G a5 ln c5)) a5 l) := ⟨(H1.out.1.below hb5).box hx2 H1.out.2.2.1 H1.out.2.2.2.2 H1.out.2.2.2.1 _, hx2.set 1 _, (hT5.mono (by have := H1.out.1.rb.lt; omega)).calm (zj.setCell (a := ⟨wr.heap.size, 1, U⟩) hx2 (by decide) _)⟩;have b1 := hx2.cell 1;simp only [kab, kac, kae] at b1
    have f1 := hx2.free 1;have lb := hx2.lt;have HD2 : Q (zb1 (r w2 ⟨wr.heap.size, 1, U⟩ (G a5 ln c5)) (w.heap.size + 2) X2) := (HD1.out.below hb5).set hx2 (by decide) _;go_upto_region 6 with fail
    clear b1 f1 lb hx2 hT5 hb5 HD1;generalize (r w2 ⟨wr.heap.size, 1, U⟩ (G a5 ln c5)) = A2 at *;have b3 := H3.out.2.1.cell 3;simp only [kab, kac, kae] at b3
    have lb := H3.out.2.1.lt;go_wp2_with fail
    clear b3 lb;refine (zpy ha hd hc hn A2 HLL.out.2.symm (by have := HQ.out.2.2.2.1; omega) (HQ.out.2.1.below H3.out.1.bel)).mono ?_;rintro e w3 ⟨a6, c6, rfl, hO6, hb6⟩;have hx3 := H3.out.2.1.below hb6 H3.out.2.1.lt;have H5 : Q (zbv w la nl lc bt nx (some ⟨g, o, U⟩) no oc B a2 c2 Y2 L (r w3 ⟨wr.heap.size, 3, U⟩ (G a6 hn c6)) a3 n3 c3 X2 (O.take k) ∧ Blk (r w3 ⟨wr.heap.size, 3, U⟩ (G a6 hn c6)) wr.heap.size #[E J dd, G a5 ln c5, .bool dec, G a6 hn c6] 38 ∧ zam (w.heap.size + 2) (r w3 ⟨wr.heap.size, 3, U⟩ (G a6 hn c6)) a5 l ∧ zd1 (w.heap.size + 2) (r w3 ⟨wr.heap.size, 3, U⟩ (G a6 hn c6)) a6 hd) := ⟨(H3.out.1.below hb6).box hx3 H1.out.2.2.1 H1.out.2.2.2.2 H1.out.2.2.2.1 _, hx3.set 3 _, (H3.out.2.2.calm (zj.below hb6 (kaa _))).calm (zj.setCell (a := ⟨wr.heap.size, 3, U⟩) hx3 (by decide) _), (hO6.intsT.mono (by have := H3.out.1.rb.lt; omega)).calm (zj.setCell (a := ⟨wr.heap.size, 3, U⟩) hx3 (by decide) _)⟩;have b3 := hx3.cell 3;simp only [kab, kac, kae] at b3
    have f3 := hx3.free 3;have lb := hx3.lt;have HD3 : Q (zb1 (r w3 ⟨wr.heap.size, 3, U⟩ (G a6 hn c6)) (w.heap.size + 2) X2 ∧ zd 3 1 zv (r w3 ⟨wr.heap.size, 3, U⟩ (G a6 hn c6)) A2.heap.size (G a6 hn c6) hd ∧ (∀ x ∈ X2, ∀ b, (hvO x).ownBlock = some b → b < A2.heap.size) ∧ w.heap.size + 2 ≤ A2.heap.size) := ⟨(HD2.out.below hb6).set hx3 (by decide) _, hO6.setOther (a := ⟨wr.heap.size, 3, U⟩) hx3 (by decide) _, HD2.out.lt, by have := H3.out.1.rb.lt; omega⟩;go_upto_region 7 with fail
    clear b3 f3 lb hx3 hO6 hb6 H3 HD2;generalize (r w3 ⟨wr.heap.size, 3, U⟩ (G a6 hn c6)) = A3 at *;obtain ⟨b0, b1, b2, b3⟩ := H5.out.2.1.cells4;obtain ⟨r0, r1, r2, r3⟩ := H5.out.1.ob.cells4;have lb := H5.out.2.1.lt;have lo := H5.out.1.ob.lt;have hX2 : X2.length ≤ 100000 := by have := HQ.out.2.2.2.2; omega
    have hsz : w.heap.size + 2 ≤ A3.heap.size := by have := H5.out.1.rb.lt; omega
    have H6 : Q (zbv w la nl lc bt nx (some ⟨g, o, U⟩) no oc B a2 c2 Y2 L (A3.alloc (T #[E J dd, G a5 ln c5, .bool dec, G a6 hn c6] 38)) a3 n3 c3 X2 (O.take k)) := H5.out.1.below (zi A3 _);go_wp2_with (at_builtin; refine zbj zas oneQ Try.underlying27 zeg rfl (by decide) _ rfl _ _ rfl (w.heap.size + 2) _ X2 rfl H6.out.hd.opn (some ⟨A3.heap.size, 0, U⟩) 1 1 [(dd, ((a5, c5), l), dec, ((a6, c6), hd))] rfl rfl (zk.one (Blk.new A3 _ _) (by simp [zan, HLL.out.1, HLL.out.2])) (by unfold maxLen; simp; omega) (by simp; omega) (by simp; omega) ?_; intro a7 n7 c7 w7 hown7 hn7 hgrow7 hat7; have o7 := H6.out.ob.keptT hgrow7 (H6.out.hd.opn.grownT (by decide)); have p3 := o7.cell 3; have q3 := o7.free 3; have l7 := o7.lt; simp only [kab, kac, kae] at p3; have hcI := H6.out.hd.opn.grownT (t := 3) (by decide); have HDF : Q (zb1 (r w7 ⟨B, 3, U⟩ (G a7 n7 c7)) (w.heap.size + 2) (X2 ++ [(dd, ((a5, c5), l), dec, ((a6, c6), hd))])) := ((((HD3.out.1.below (zi A3 _)).grown hgrow7 hcI).push (z := (dd, ((a5, c5), l), dec, ((a6, c6), hd))) (by show zd _ _ _ _ _ (G a6 hd.length c6) hd; rw [HLL.out.2]; exact (HD3.out.2.1.below (zi A3 _) (kaa _)).keptT hgrow7 hcI) HD3.out.2.2.2 HD3.out.2.2.1).set o7 (by decide) _); have HF : Q _ := H6.out.push hgrow7 hown7 (H5.out.2.2.1.calm (zj.alloc _ _ _)) (H5.out.2.2.2.calm (zj.alloc _ _ _)); clear hn7 hat7 hgrow7 hown7 o7 hcI)
    clear p3 q3 l7 b0 b1 b2 b3 r0 r1 r2 r3;go_wp2;go_roundw
    case rel => exact ⟨k + 1, a7, n7, c7, _, by omega, by go_num, by rw [HT.out]; exact ⟨HF.out, HDF.out⟩⟩
    case measure => simp [intOf]; omega
   ·have hO : O.take k = O := List.take_of_length_le (by have h1 := HW.out.1; have h2 := HW.out.2.2.1; omega)
    rw [hO] at hH;clear hO;obtain ⟨r0, r1, r2, r3⟩ := hH.out.ob.cells4;obtain ⟨t0, t1, t2, t3⟩ := hH.out.rb.cells4;obtain ⟨y0, y1, y2, y3⟩ := hH.out.rb.free4;have lo := hH.out.ob.lt;have lr := hH.out.rb.lt;have z := hH.out.rb;have hk4 := zct z (G a2 nl c2) (E J bt) (E J nx) (G a3 n3 c3);obtain ⟨e0, e1, e2, e3⟩ := hk4.1.cells4;have HF : Q ((zbh (r (r (r (r wr ⟨w.heap.size + 1, 0, U⟩ (G a2 nl c2)) ⟨w.heap.size + 1, 1, U⟩ (E J bt)) ⟨w.heap.size + 1, 2, U⟩ (E J nx)) ⟨w.heap.size + 1, 3, U⟩ (G a3 n3 c3)) w.heap.size a2 nl c2 Y2 a3 n3 c3 X2 L O ∧ zb1 (r (r (r (r wr ⟨w.heap.size + 1, 0, U⟩ (G a2 nl c2)) ⟨w.heap.size + 1, 1, U⟩ (E J bt)) ⟨w.heap.size + 1, 2, U⟩ (E J nx)) ⟨w.heap.size + 1, 3, U⟩ (G a3 n3 c3)) w.heap.size X2) ∧ Z w.heap.size w (r (r (r (r wr ⟨w.heap.size + 1, 0, U⟩ (G a2 nl c2)) ⟨w.heap.size + 1, 1, U⟩ (E J bt)) ⟨w.heap.size + 1, 2, U⟩ (E J nx)) ⟨w.heap.size + 1, 3, U⟩ (G a3 n3 c3))) := ⟨⟨(((((hH.out.hd.mono (by omega : w.heap.size ≤ w.heap.size + 2)).set z (by decide) (by decide) (by decide) (by decide) _).set (z.set 0 _) (by decide) (by decide) (by decide) (by decide) _).set ((z.set 0 _).set 1 _) (by decide) (by decide) (by decide) (by decide) _).set (((z.set 0 _).set 1 _).set 2 _) (by decide) (by decide) (by decide) (by decide) _), (((((hHD.out.mono (by omega : w.heap.size ≤ w.heap.size + 2)).set z (by decide) _).set (z.set 0 _) (by decide) _).set ((z.set 0 _).set 1 _) (by decide) _).set (((z.set 0 _).set 1 _).set 2 _) (by decide) _)⟩, hH.out.bel.trans (hk4.2.below hH.out.bel.size (fun b hb => by omega))⟩
    clear z hk4 hH hHD;go_wp2_with fail
    clear r0 r1 r2 r3 t0 t1 t2 t3 y0 y1 y2 y3 lo lr;generalize (r (r (r (r wr ⟨w.heap.size + 1, 0, U⟩ (G a2 nl c2)) ⟨w.heap.size + 1, 1, U⟩ (E J bt)) ⟨w.heap.size + 1, 2, U⟩ (E J nx)) ⟨w.heap.size + 1, 3, U⟩ (G a3 n3 c3)) = Z9 at *;refine bodyPost_ret (v := .agg #[G a2 nl c2, E J bt, E J nx, G a3 n3 c3]) ?_ rfl ⟨_, rfl, ⟨a2, nl, c2, Y2, a3, n3, c3, X2, rfl, HF.out.1.1, HF.out.1.2⟩, HF.out.2⟩;simp [results, Try.results15, go_sem, e0, e1, e2, e3]
theorem zio (la oa : Option Addr) (nl lc no oc : Nat) (bt nx : Int) (Y : List XL) (X : List XO) (L : List R3) (O : List O4) (w : World) (H : zbk (fun _ => False) w la nl Y oa no X L O) (hf : zcd O) (hok : OkL L) (hl : L.length ≤ 900000) :
  Calls Try.prog 15 #[.agg #[G la nl lc, E J bt, E J nx, G oa no oc]] w fun e w' => ∃ v', e = .returned v' ∧ (∃ a2 n2 c2 Y2 a3 n3 c3 X2, v' = .agg #[G a2 n2 c2, E J bt, E J nx, G a3 n3 c3] ∧ zbh w' w.heap.size a2 n2 c2 Y2 a3 n3 c3 X2 L O) ∧ Z w.heap.size w w' := by
 refine (zgd la oa nl lc no oc bt nx Y X L O w H hf hok hl).mono ?_;rintro e w' ⟨v', rfl, ⟨a2, n2, c2, Y2, a3, n3, c3, X2, rfl, h, _⟩, hb⟩;exact ⟨_, rfl, ⟨a2, n2, c2, Y2, a3, n3, c3, X2, rfl, h⟩, hb⟩
theorem zeroQ (w : World) : (zeroValue 38).run Try.prog w = .ok (.agg #[E J 0, G U 0 0, .bool false, G U 0 0]) w := by
 obtain ⟨i0, hi, hz0, hz1, hz2⟩ := info_parts zeg;simp [zeroValue, typeInfo, hi, hz0]
theorem delQ_any (a : Option Addr) (X : List XO) (cap n base i j : Nat) (w : World) (hj : j = i + 1) (jx : zd 38 4 zan w base (G a n cap) X) (hi : i < X.length) :
  Calls Try.prog 24 #[G a n cap, E J (i : Nat), E J (j : Nat)] w fun e w' => e = .returned (G a (n - 1) cap) ∧ zd 38 4 zan w' base (G a (n - 1) cap) (X.eraseIdx i) ∧ zg (fun b => ∃ ad, a = some ad ∧ b = ad.block) w w' := by
 obtain ⟨i0, hi0, hz0, hz1, hz2⟩ := info_parts zeg;have hnX := (jx.at zas).2.1;have hO := jx;rcases jx.2 with ⟨hv, h0⟩ | ⟨g, cap', cur, hv, hg, hh, jZ, hmx, hsz, qJ⟩
 ·omega
 injection hv with ha hn2 hc2
 subst ha;subst hc2;subst hnX;have hB : Blk w g cur 38 := hh;unfold maxLen at hmx
 obtain ⟨news, hnews⟩ : ∃ news, news = zx zan (X.drop j) := ⟨_, rfl⟩;have jw : news.length = (X.length - j) * 4 := by rw [hnews, zde zas]; simp
 have hL : cur.toList.length = cur.size := by simp
 have hcs : X.length * 4 ≤ cur.size := by rw [hsz]; exact Nat.mul_le_mul_right _ jZ
 have hget : ∀ t, t < news.length → cur[j * 4 + t]? = news[t]? := by
  intro t ht;have h1 : zx zan X = zx zan (X.take j) ++ news := by rw [hnews, ← zfg, List.take_append_drop]
  have h2 : (zx zan (X.take j)).length = j * 4 := by rw [zde zas, List.length_take]; congr 1; omega
  have h3 : (zx zan X)[j * 4 + t]? = news[t]? := by rw [h1, List.getElem?_append_right (by omega), h2]; congr 1; omega
  rw [← qJ, List.getElem?_take_of_lt (by omega)] at h3;rw [← h3]; simp
 obtain ⟨A, hA, hsrc⟩ : ∃ A : Addr, (if cap = j then some (⟨g, 0, U⟩ : Addr) else some ⟨g, j * 4, U⟩) = some A ∧ Q (∀ t u, news[t]? = some u → w.drew.cell? (A.add t) = some u) := by
  by_cases h : cap = j
  ·refine ⟨⟨g, 0, U⟩, by simp [h], fun t u hu => ?_⟩
   have h0 : news.length = 0 := by rw [jw]; omega
   rw [List.length_eq_zero_iff.1 h0] at hu;simp at hu
  ·refine ⟨⟨g, j * 4, U⟩, by simp [h], fun t u hu => ?_⟩
   have ht := (List.getElem?_eq_some_iff.1 hu).1;rw [Addr.add_lit];refine (hB.drew.cell _).trans ?_;have h5 := hget t ht;rw [hu] at h5
   simpa using h5
 have s1 := zA jw
 have s2 : Q (∀ u ∈ news, u.oneCell' = true) := by
  intro u hu;rw [hnews] at hu;exact zhr oneQ _ u hu
 have s3 : Q (∀ t, t < news.length → (w.drew.cell? ⟨g, 0 + i * 4 + t, U⟩).isSome = true ∧ w.drew.frozen? ⟨g, 0 + i * 4 + t, U⟩ = false) := by
  intro t ht;refine ⟨?_, hB.drew.free _⟩;rw [hB.drew.cell, Array.getElem?_eq_getElem (by omega)];rfl
 obtain ⟨W1, hW1⟩ : ∃ W1, W1 = w.drew.setCells g (0 + i * 4) news := ⟨_, rfl⟩;have hB1 := Blk.setCells news (0 + i * 4) w.drew cur hB.drew (by omega);rw [← hW1] at hB1;obtain ⟨cur1, hcur1⟩ : ∃ cur1, cur1 = (cur.toList.take (0 + i * 4) ++ news ++ cur.toList.drop (0 + i * 4 + news.length)).toArray := ⟨_, rfl⟩;rw [← hcur1] at hB1;have hsz1 : cur1.size = cur.size := by rw [hcur1]; simp; omega
 have hK1 : zg (fun b => b = g) w W1 := by rw [hW1]; exact zg.setCells (R := fun b => b = g) rfl _ _ _ (zg.refl _ _).drew
 have hO1 : zd 38 4 zan W1 base (G (some ⟨g, 0, U⟩) (X.length - 1) cap) (X.eraseIdx i) := by
  have hel : (X.eraseIdx i).length = X.length - 1 := by rw [List.length_eraseIdx]; simp [hi]
  refine ⟨by rw [zde zas], Or.inr ⟨g, cap, cur1, by rw [hel], hg, hB1, by rw [hel]; omega, by unfold maxLen; exact hmx, by rw [hsz1]; exact hsz, ?_⟩⟩;have e1 : zx zan (X.eraseIdx i) = zx zan (X.take i) ++ news := by rw [List.eraseIdx_eq_take_drop_succ, zfg, hnews, hj]
  have e2 : cur.toList.take (0 + i * 4) = zx zan (X.take i) := by
   have h1 : zx zan X = zx zan (X.take i) ++ zx zan (X.drop i) := by rw [← zfg, List.take_append_drop]
   have h2 : (zx zan (X.take i)).length = 0 + i * 4 := by rw [zde zas, List.length_take, Nat.zero_add]; congr 1; omega
   have h3 : (cur.toList.take (X.length * 4)).take (0 + i * 4) = cur.toList.take (0 + i * 4) := by rw [List.take_take, Nat.min_eq_left (by omega)]
   rw [← h3, qJ, h1, ← h2, List.take_left'];rfl
  rw [e1, hel, hcur1];simp only [e2]
  rw [List.take_append_of_le_length (by simp [zde zas, jw]; omega)];rw [List.take_of_length_le (by simp [zde zas, jw]; omega)]
 have hcl' : ∀ ty, ∃ vs, (Builtin.clear_ #[27] ty #[G (some ⟨g, (X.length - 1) * 4, U⟩) 1 (cap - (X.length - 1))]).run Try.prog W1 = .ok (.tuple #[]) (W1.setCells g ((X.length - 1) * 4) vs) := fun ty =>
  zh2 W1 27 38 ty (.agg #[E J 0, G U 0 0, .bool false, G U 0 0]) Try.underlying27 zeroQ (by intro u hu; simp [Value.cells] at hu; rcases hu with rfl | rfl | rfl | rfl <;> rfl) g ((X.length - 1) * 4) 1 _ (by omega)
   (fun j hj => by have hj' : j < 4 := (by simpa [Value.cells] using hj); rw [hB1.cell, Array.getElem?_eq_getElem (by omega)]; rfl) (fun j hj => hB1.free _)
 have hW := zA hW1;have HO : Q (zd 38 4 zan W1 base (G (some ⟨g, 0, U⟩) (X.length - 1) cap) (X.eraseIdx i) ∧ zg (fun b => b = g) w W1 ∧ (X.eraseIdx i).length = X.length - 1) := ⟨hO1, hK1, by rw [List.length_eraseIdx]; simp [hi]⟩;have hi1 : i ≤ cap := by omega
 have hj1 : j ≤ cap := by omega
 have hjX : j ≤ X.length := by omega
 have hij : ¬ i = j := by omega
 have hjl : i + (X.length - j) = X.length - 1 := by omega
 have hX1 : X.length - (X.length - 1) = 1 := by omega
 have hXc := jZ;obtain ⟨vs, hcl⟩ := hcl' 0;clear hB hh jx hO qJ hget hnews jw hsz hsz1 hcur1 hB1 hO1 hK1 hW1 hL hcs jZ hg hj hi hcl';go_enter Try.func24, Try.ntmps24
 go_wp2_with fail
 go_region_law (refine step_append_room rfl (.tmp 22) (.tmp 25) 27 rfl 38 i0 4 Try.underlying27 hi0 hz1 g 0 i cap (by simp [Act.eval, Act.put]) A (X.length - j) (cap - j) news (by simp [Act.eval, Act.put]) s1.out hsrc.out s2.out (by omega) s3.out ?_; rw [← hW.out])
 generalize hmm0 : X.length - 1 = m at *;have hmm := zA hmm0;clear hmm0;go_wp2;go_ret;rw [hmm.out];exact ⟨rfl, zd.setCells zas HO.out.2.2.symm vs (m * 4) W1 HO.out.1 (by rw [HO.out.2.2]; omega), (zg.setCells (R := fun b => b = g) rfl _ _ _ HO.out.2.1).mono (fun b _ hb => ⟨_, rfl, hb⟩)⟩
theorem zgl : zfc 21 := fun _ _ => rfl
theorem zll (b : Nat) (mk md mh k : Int) (mv : Value) (w : World) (hb : Blk w b #[E J mk, E J md, E J mh, mv] 43) :
  Calls Try.prog 19 #[E J k, .pointer (some ⟨b, 0, U⟩)] w fun e w' => ∃ v, e = .returned v ∧ zm w' w.heap.size v [(k, md, mh, [])] ∧ Z w.heap.size w w' := by
 have HF : Q (zm (w.alloc (T #[E J k, E J md, E J mh, G U 0 0] 43)) w.heap.size (G (some ⟨w.heap.size, 0, U⟩) 1 1) [(k, md, mh, [])] ∧ Z w.heap.size w (w.alloc (T #[E J k, E J md, E J mh, G U 0 0] 43))) := ⟨zm.new1 w (kaa _) k md mh, zi _ _⟩;have b1 := hb.cell 1;have b2 := hb.cell 2;simp only [kab, kac, kae] at b1 b2
 have lb := hb.lt;clear hb;go_enter Try.func19, Try.ntmps19
 go_wp2;go_ret;exact ⟨_, rfl, HF.out.1, HF.out.2⟩
theorem zgk (b : Nat) (mk md mh dd : Int) (mv v1 v2 v3 : Value) (w : World) (hb : Blk w b #[E J mk, E J md, E J mh, mv] 43) :
  Calls Try.prog 21 #[.agg #[E J dd, v1, v2, v3], .pointer (some ⟨b, 0, U⟩)] w fun e w' => e = .returned (.bool (dd == md)) ∧ Z w.heap.size w w' := by
 have hb0 := zi w (T #[E J dd, v1, v2, v3] 38);have hbA := hb.below hb0 hb.lt;have b1 := hbA.cell 1;simp only [kab, kac, kae] at b1
 have lb := hb.lt;clear hb hbA;go_enter Try.func21, Try.ntmps21
 go_wp2;go_ret;exact ⟨rfl, hb0⟩
theorem zmy (B b base : Nat) (bcs : Array Value) (la : Option Addr) (nl lc : Nat) (Y : List XL) (mk md mh k : Int) (mv : Value) (pa : Option Addr) (ln pc : Nat) (l : List P3) (w : World) (hB : Blk w B bcs 29) (hc0 : w.cell? ⟨B, 0, U⟩ = some (G la nl lc)) (hb : Blk w b #[E J mk, E J md, E J mh, mv] 43) (hO : zdd w base (G la nl lc) Y) (hbase : base ≤ w.heap.size) (hY : Y.length ≤ 900000) (hln : ln = l.length) (hl : l.length ≤ 1000) (hp : zal w pa l) :
  Calls Try.prog 22 #[E J k, G pa ln pc, .pointer (some ⟨B, 0, U⟩), .pointer (some ⟨b, 0, U⟩)] w fun e w' => e = .returned (.tuple #[]) ∧ ∃ (w1 w2 : World) (a' : Option Addr) (n' c' : Nat) (a5 : Option Addr) (c5 : Nat), Z w.heap.size w w1 ∧ zam w.heap.size w1 a5 l ∧ w1.grownBy w2 (kad (G la nl lc)) ∧ zd 68 3 zaj w2 base (G a' n' c') (Y ++ [(k, md, (a5, c5), l)]) ∧ w' = r w2 ⟨B, 0, U⟩ (G a' n' c') := by
 have HQ := zF hln hl hp hO hB hb;have HC0 := zA hc0;clear hln hl hp hO hB hb hc0;have hX1 : Z w.heap.size w w.drew := (Below.refl _ _).drew;have HK : Q (∀ w', Z w.heap.size w w' → (w'.cell? ⟨B, 0, U⟩ = some (G la nl lc) ∧ w'.cell? ⟨b, 1, U⟩ = some (E J md))) := fun w' hb => ⟨(hb.cell HQ.out.2.2.2.2.1.lt).trans HC0.out, (HQ.out.2.2.2.2.2.below hb HQ.out.2.2.2.2.2.lt).cell 1⟩
 go_enter Try.func22, Try.ntmps22
 refine zcf (S := fun w' => (w'.cell? ⟨B, 0, U⟩ = some (G la nl lc) ∧ w'.cell? ⟨b, 1, U⟩ = some (E J md))) 11 (by kernel_rfl) (HK.out _ hX1) (fun jq => ?_);refine tks 6 [(0, 6), (2, 8), (3, 9), (5, 11), (1, 7), (4, 10)] (b := ?_) rfl (by decide +kernel) (fun _ _ _ _ _ h => h) ?_ jq ?_;rotate_left 1
 ·iterate 6 (refine zaa.cons (v := ?_) rfl rfl (by rfl) ?_ ?_; rotate_left 1; (intro w h; (try dsimp only at h); go_simp; try with_reducible rfl))
  exact zaa.nil
 refine rdy 6 (by kernel_rfl) rfl (fun K hK => ?_);go_simp;(go_at_call 17; refine (zg1 pa l pc ln w.drew HQ.out.1 (by have := HQ.out.2.1; omega) (HQ.out.2.2.1.below hX1)).mono ?_; rintro e w1 ⟨a5, c5, rfl, hT5, hb1⟩; have hXA : Z w.heap.size w w1 := hX1.trans (hb1.mono hX1.size); have hXAs := hXA.size; have HT5 : Q (zam w.heap.size w1 a5 l) := hT5.mono hX1.size; clear hT5 hb1)
 go_wp2_with fail
 refine kgo hK (by decide +kernel) ((HK.out _ hXA)) (fun jq => ?_);clear hK K;refine tks 1 [(7, 13)] (b := ?_) rfl (by decide +kernel) (fun _ _ _ _ _ h => h) ?_ jq ?_;rotate_left 1
 ·iterate 1 (refine zaa.cons (v := ?_) rfl rfl (by rfl) ?_ ?_; rotate_left 1; (intro w h; (try dsimp only at h); go_simp; try with_reducible rfl))
  exact zaa.nil
 refine rdy 8 (by kernel_rfl) rfl (fun K hK => ?_);go_simp;refine kgo hK (by decide +kernel) ((HK.out _ (hXA.alloc hXAs _))) (fun jq => ?_);clear hK K;have hXB : Z w.heap.size w (w1.alloc (T #[E J k, E J md, G a5 ln c5] 68)) := hXA.alloc hXAs _;have hoB := HQ.out.2.2.2.1.1.below hXB (kaa _);refine rdy 9 (by kernel_rfl) rfl (fun K hK => ?_);refine zeu za4 zcr Try.underlying26 zcl rfl (by decide) _ rfl (.tmp 7) (.tmp 14) rfl base (G la nl lc) Y rfl hoB (some ⟨w1.heap.size, 0, U⟩) 1 1 [(k, md, (a5, c5), l)] rfl rfl (zk.one (Blk.new w1 _ _) (by simp [zaj, ← HQ.out.1])) (by unfold maxLen; simp; omega) (by simp; omega) (by simp; omega) ?_;intro a4 n4 c4 w4 jv hn4 jy jQ;have hB4 := (HQ.out.2.2.2.2.1.below hXB HQ.out.2.2.2.2.1.lt).keptT jy (hoB.grownT (by decide));have hb4 := (HQ.out.2.2.2.2.2.below hXB HQ.out.2.2.2.2.2.lt).keptT jy (hoB.grownT (by decide));have H4 : Q (zd 68 3 zaj w4 base (G a4 n4 c4) (Y ++ [(k, md, (a5, c5), l)]) ∧ (w1.alloc (T #[E J k, E J md, G a5 ln c5] 68)).grownBy w4 (kad (G la nl lc)) ∧ zam w.heap.size (w1.alloc (T #[E J k, E J md, G a5 ln c5] 68)) a5 l) := ⟨jv, jy, HT5.out.calm (zj.alloc _ _ _)⟩;have p0 := (hB4.cell 0).trans ((HQ.out.2.2.2.2.1.cell 0).symm.trans HC0.out);have p1 : w4.cell? ⟨b, 1, U⟩ = some (E J md) := hb4.cell 1;have q0 := hB4.free 0;have l4 := hB4.lt;clear jv hn4 jy jQ hB4 hb4;refine kgo hK (by decide +kernel) (⟨p0, p1⟩) (fun jq => ?_);clear hK K;refine tks 1 [(10, 16)] (b := ?_) rfl (by decide +kernel) (fun _ _ _ _ _ h => h) ?_ jq ?_
 rotate_left 1
 ·iterate 1 (refine zaa.cons (v := ?_) rfl rfl (by rfl) ?_ ?_; rotate_left 1; (intro w h; (try dsimp only at h); go_simp; try with_reducible rfl))
  exact zaa.nil
 refine rdy 11 (by kernel_rfl) rfl (fun K hK => ?_);go_simp;refine zbb hK (by decide +kernel) ?_;clear hK K jq;refine zbo (by kernel_rfl) ?_ _;go_wp2;exact bodyPost_end (v := .tuple #[]) (results_none rfl _ _ _) rfl ⟨rfl, _, w4, a4, n4, c4, a5, c5, hXB, H4.out.2.2, H4.out.2.1, H4.out.1, rfl⟩
theorem zku (B b base i : Nat) (bcs : Array Value) (oa : Option Addr) (no oc : Nat) (X : List XO) (w : World) (hB : Blk w B bcs 29) (hc3 : w.cell? ⟨B, 3, U⟩ = some (G oa no oc)) (hb : Blk w b #[E J (i : Nat)] 3) (hO : zd 38 4 zan w base (G oa no oc) X) (hi : i < X.length) (hl : X.length ≤ 100000) :
  Calls Try.prog 23 #[.pointer (some ⟨B, 0, U⟩), .pointer (some ⟨b, 0, U⟩)] w fun e w' => e = .returned (.tuple #[]) ∧ ∃ (w2 : World) (a' : Option Addr) (n' c' : Nat), zd 38 4 zan w2 base (G a' n' c') (X.eraseIdx i) ∧ zg (fun q => kad (G oa no oc) = some q) w w2 ∧ w' = r w2 ⟨B, 3, U⟩ (G a' n' c') := by
 have HQ := zB hB hO;have b0 := hb.cell 0;simp only [kab, kac] at b0
 have lb := hb.lt;have lB := hB.lt;have hw1 : IntKind.i64.wrap ((i : Int) + 1) = ((i + 1 : Nat) : Int) := by rw [IntKind.wrap_i64]; omega
 clear hB hb hO;go_enter Try.func23, Try.ntmps23
 go_wp2_with fail
 refine (delQ_any oa X oc no base i (i + 1) w rfl HQ.out.2 hi).mono ?_;rintro e w2 ⟨rfl, ho2, hk2⟩;have hne := HQ.out.2.neT HQ.out.1 (by decide)
 have hk : zg (fun q => kad (G oa no oc) = some q) w w2 := hk2.mono (fun q _ hq => by
  obtain ⟨ad, e, hb⟩ := hq;subst e;subst hb
  rfl)
 have hB2 := HQ.out.1.keep hk hne;have H2 := zB ho2 hk;have p3 := (hk.cell (o := 3) lB hne).trans hc3;have q3 := hB2.free 3;have l2 := hB2.lt;clear ho2 hk2 hk hB2 hne b0 lb hw1 hc3;go_wp2;exact bodyPost_end (v := .tuple #[]) (results_none rfl _ _ _) rfl ⟨rfl, w2, oa, no - 1, oc, H2.out.1, H2.out.2, rfl⟩
end Go.Proofs.Ytpcnlifmkhagkaa
