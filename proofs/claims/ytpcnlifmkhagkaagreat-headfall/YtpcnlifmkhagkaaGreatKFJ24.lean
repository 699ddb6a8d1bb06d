import Derived.Test.YtpcnlifmkhagkaaGreatKFHr2
import Derived.Test.YtpcnlifmkhagkaaGreatKFJ23
set_option maxRecDepth 20000
set_option maxHeartbeats 20000000
namespace Go.Proofs.YtpcnlifmkhagkaaGreat
open Go.RowKit
open Go.Value renaming slice → G, int → E
open Go.IntKind renaming i64 → J
open _root_.Option renaming none → U
open Go.Obj renaming cells → T
open Go.RowKit renaming Hid → Q, Below → Z
open Go.World renaming setCell → r
open _root_.Nat renaming le_refl → kaa
open _root_.List renaming getElem?_toArray → kab, getElem?_cons_zero → kac, getElem_mem → kad, getElem?_cons_succ → kae
attribute [local go_sem ↓] Go.wp_at_zero Go.wp_at_succ
theorem zqb (la oa : Option Addr) (nl lc no oc : Nat) (bt nx : Int) (L : List R3) (O : List O4) (Y : List XL) (X : List XO) (md mh : Int) (ma : Option Addr) (mn mc : Nat) (ml : List P3) (w : World) (H : zbd (fun _ => False) w la nl Y oa no X L O) (hf : zci O) (hok : OkL L) (hl : L.length ≤ 400000) (hex : ∃ o ∈ O, o.1 = md) (hr : ∀ o ∈ O, zcd o.2.1) :
  Calls Tryz.prog 24 #[.agg #[G la nl lc, E J bt, E J nx, G oa no oc], .agg #[E J 7, E J md, E J mh, G ma mn mc]] w fun e w' => ∃ v' sv, e = .returned (.tuple #[v', sv]) ∧ (∀ R : Nat → Prop, (∀ b, R b → b < w.heap.size) → zaa R w' v' (zj ⟨L, bt, nx, O⟩ (7, md, mh, ml)).1) ∧ zm w' w.heap.size sv (zj ⟨L, bt, nx, O⟩ (7, md, mh, ml)).2 ∧ Z w.heap.size w w' := by
 have hb0 : Z w.heap.size w (((w.alloc (T #[G la nl lc, E J bt, E J nx, G oa no oc] 29)).alloc (T #[E J 7, E J md, E J mh, G ma mn mc] 25)).alloc (T #[G U 0 0, E J 0, E J 0, G U 0 0] 29)) := (za4 w (T #[G la nl lc, E J bt, E J nx, G oa no oc] 29) (T #[E J 7, E J md, E J mh, G ma mn mc] 25)).alloc (by simp; omega) _;have h0 : Blk (((w.alloc (T #[G la nl lc, E J bt, E J nx, G oa no oc] 29)).alloc (T #[E J 7, E J md, E J mh, G ma mn mc] 25)).alloc (T #[G U 0 0, E J 0, E J 0, G U 0 0] 29)) w.heap.size #[G la nl lc, E J bt, E J nx, G oa no oc] 29 := ((Blk.new _ _ _).alloc _).alloc _;have hm0 : Blk (((w.alloc (T #[G la nl lc, E J bt, E J nx, G oa no oc] 29)).alloc (T #[E J 7, E J md, E J mh, G ma mn mc] 25)).alloc (T #[G U 0 0, E J 0, E J 0, G U 0 0] 29)) (w.heap.size + 1) #[E J 7, E J md, E J mh, G ma mn mc] 25 := Blk.alloc (zap _ _ _) _;have hs2 : ((w.alloc (T #[G la nl lc, E J bt, E J nx, G oa no oc] 29)).alloc (T #[E J 7, E J md, E J mh, G ma mn mc] 25)).heap.size = w.heap.size + 2 := by simp
 have hz0 : Blk (((w.alloc (T #[G la nl lc, E J bt, E J nx, G oa no oc] 29)).alloc (T #[E J 7, E J md, E J mh, G ma mn mc] 25)).alloc (T #[G U 0 0, E J 0, E J 0, G U 0 0] 29)) (w.heap.size + 2) #[G U 0 0, E J 0, E J 0, G U 0 0] 29 := by rw [← hs2]; exact Blk.new _ _ _
 have hs0 : (((w.alloc (T #[G la nl lc, E J bt, E J nx, G oa no oc] 29)).alloc (T #[E J 7, E J md, E J mh, G ma mn mc] 25)).alloc (T #[G U 0 0, E J 0, E J 0, G U 0 0] 29)).heap.size = w.heap.size + 3 := by simp
 have hnL : nl = L.length := by rw [← H.says, List.length_map]; exact H.ln
 have HG := zE (H.below hb0) hf hok hl hnL;clear H hf hok hl hnL hs2;go_enter Tryz.func24, Tryz.ntmps24
 go_upto_region 1 with fail
 generalize (((w.alloc (T #[G la nl lc, E J bt, E J nx, G oa no oc] 29)).alloc (T #[E J 7, E J md, E J mh, G ma mn mc] 25)).alloc (T #[G U 0 0, E J 0, E J 0, G U 0 0] 29)) = V at *;obtain ⟨x0, x1, x2, x3⟩ := h0.cells4;have l0 := h0.lt;go_wp2_with fail
 refine (zf8 la oa nl lc no oc bt nx Y X L O V HG.out.1 HG.out.2.1 HG.out.2.2.1 (by have := HG.out.2.2.2.1; omega)).mono ?_;rintro e w2 ⟨_, rfl, ⟨a2, n2, c2, Y2, a3, n3, c3, X2, rfl, hO2, hE2⟩, jX⟩;have hn2 : n2 = nl := by rw [(hO2.log.1.at za7).2.1, HG.out.2.2.2.2, ← hO2.says, List.length_map]
 subst hn2
 have H1 : Q (HrS w 7 md mh (G ma mn mc) bt nx w2.heap.size (w2.alloc (T #[G a2 n2 c2, E J bt, E J nx, G a3 n3 c3] 29)) a2 n2 c2 Y2 L a3 n3 c3 X2 O) := by
  have hbb := zg w2 (T #[G a2 n2 c2, E J bt, E J nx, G a3 n3 c3] 29);have hsz := jX.size;exact ⟨(hm0.below jX hm0.lt).below hbb (by omega), (hz0.below jX hz0.lt).below hbb (by omega), Blk.new _ _ _, (hO2.mono (by omega : w.heap.size + 3 ≤ V.heap.size)).below hbb, (hE2.mono (by omega : w.heap.size + 3 ≤ V.heap.size)).below hbb, (hb0.trans (jX.mono hb0.size)).trans (hbb.mono (by omega)), by omega⟩
 clear hO2 hE2 jX hb0 hz0 hm0 h0 hs0 x0 x1 x2 x3 l0;go_upto_region 3 with fail
 obtain ⟨N7, hN7⟩ : ∃ N7, N7 = w2.heap.size := ⟨_, rfl⟩;rw [← hN7] at H1;generalize w2.alloc (T #[G a2 n2 c2, E J bt, E J nx, G a3 n3 c3] 29) = A at *;rw [← hN7];clear hN7;obtain ⟨nl, hnl'⟩ : ∃ nl, nl = n2 := ⟨_, rfl⟩;subst hnl';have x3 := H1.out.ob.cell 3;simp only [kab, kac, kae] at x3
 have l0 := H1.out.ob.lt;have hn3 : Q (n3 = X2.length ∧ X2.length ≤ 100000) := ⟨(H1.out.hd.opn.at zas).2.1, by have h1 := H1.out.hd.osays; have h2 := HG.out.2.1.1; rw [← h1, List.length_map] at h2; exact h2⟩;go_wp2_with fail
 refine (zgc 56 #[.pointer (some ⟨w.heap.size + 1, 0, U⟩)] zgo (fun x => x.1 == md) a3 X2 c3 n3 A hn3.out.1 (by have := hn3.out.2; omega) (H1.out.hd.opn.at zas).1 (fun x _ w' hb => zgu (w.heap.size + 1) 7 md mh x.1 (G ma mn mc) _ _ _ w' (H1.out.mb.below hb H1.out.mb.lt))).mono ?_;rintro e w3 ⟨jj, rfl, hidx, hb3⟩;have HX := zA hidx;have H3 : Q (HrS w 7 md mh (G ma mn mc) bt nx N7 (w3.alloc (T #[E J jj] 3)) a2 nl c2 Y2 L a3 n3 c3 X2 O ∧ Blk (w3.alloc (T #[E J jj] 3)) w3.heap.size #[E J jj] 3) := ⟨(H1.out.below hb3).below (zg w3 _), Blk.new _ _ _⟩;clear hidx hb3 H1 x3 l0;go_upto_region 4 with fail
 generalize w3.alloc (T #[E J jj] 3) = D at *;have i0 := H3.out.2.cell 0;simp only [kab, kac] at i0
 have li := H3.out.2.lt
 obtain ⟨i, hi, hri, hdi, hlow⟩ : ∃ (i : Nat) (hi : i < X2.length), jj = i ∧ X2[i].1 = md ∧ ∀ j (hj : j < X2.length), j < i → X2[j].1 ≠ md := by
  rcases HX.out with ⟨_, h⟩ | ⟨i, hi, h1, h2, h3⟩
  ·exfalso
   obtain ⟨o, ho, hod⟩ := hex;rw [← H3.out.1.hd.osays] at ho;obtain ⟨x, hx, rfl⟩ := List.mem_map.1 ho;have h2 := h x hx;simp [zw] at h2 hod
   exact h2 hod
  ·exact ⟨i, hi, h1, by simpa using h2, fun j hj hji => by simpa using h3 j hj hji⟩
 subst hri;have hiO : i < O.length := by have h1 := H3.out.1.hd.osays; rw [← h1, List.length_map]; exact hi
 have hOi : O[i] = zw X2[i] := by
  have : O = X2.map zw := H3.out.1.hd.osays.symm;subst this;rw [List.getElem_map]
 have HH : Q (zb4 (7, md, mh, ml) O = some (O.take i ++ ((zx (7, md, mh, ml) (zw X2[i])).1.toList ++ O.drop (i + 1)), (zx (7, md, mh, ml) (zw X2[i])).2.1, (zx (7, md, mh, ml) (zw X2[i])).2.2) ∧ O = O.take i ++ (zw X2[i] :: O.drop (i + 1)) ∧ O.eraseIdx i = O.take i ++ O.drop (i + 1)) := by
  refine ⟨?_, by rw [← hOi, ← List.drop_eq_getElem_cons hiO, List.take_append_drop], List.eraseIdx_eq_take_drop_succ _ _⟩;rw [← hOi]
  exact zgl hiO (by rw [hOi]; exact hdi) (fun j hj hji => by
   have h1 := hlow j (by have h1 := H3.out.1.hd.osays; rw [← h1, List.length_map] at hj; exact hj) hji
   have h2 : O[j] = zw (X2[j]'(by have h1 := H3.out.1.hd.osays; rw [← h1, List.length_map] at hj; exact hj)) := by
    have : O = X2.map zw := H3.out.1.hd.osays.symm;subst this;rw [List.getElem_map]
   rw [h2]
   exact h1)
 have hro := hr O[i] (kad hiO);rw [hOi] at hro
 obtain ⟨g, ha3⟩ : ∃ g, a3 = some ⟨g, 0, U⟩ := by
  rcases H3.out.1.hd.opn.2 with ⟨hv, h0⟩ | ⟨g, cap', cur, hv, _⟩
  ·exfalso; omega
  ·cases hv; exact ⟨g, rfl⟩
 subst ha3;obtain ⟨hgl, d0, d1, d2, d3⟩ := zex (H3.out.1.hd.opn.at zas).1 hi;simp only [Nat.zero_add] at d0 d1 d2 d3
 have hop := H3.out.1.hd.op _ (kad hi);have hin : i < n3 := by rw [hn3.out.1]; exact hi
 obtain ⟨x, hx⟩ : ∃ x, Q (X2[i] = x) := ⟨X2[i], by show _ = _; rfl⟩;rw [hx.out] at d0 d1 d2 d3 hop hro hdi;rw [hx.out] at HH;clear hex hlow hOi;obtain ⟨dd, ⟨⟨pa, pc⟩, l⟩, dec, ⟨ha, hc⟩, hd⟩ := x;simp only [zw] at d0 d1 d2 d3 hop hro hdi HH
 subst hdi;obtain ⟨ln, hn, HLL⟩ : ∃ ln hn, Q (l.length = ln ∧ hd.length = hn) := ⟨_, _, rfl, rfl⟩;rw [HLL.out.1] at d1;rw [HLL.out.2] at d3;have gi : decide ((i : Int) < 0) = false := decide_eq_false (by omega);have x3 := H3.out.1.ob.cell 3;simp only [kab, kac, kae] at x3
 have m0 := H3.out.1.mb.cell 0;simp only [kab, kac] at m0
 have lm := H3.out.1.mb.lt;have lx := H3.out.1.ob.lt
 cases dec with
 | true =>
  have HP : Q (zj ⟨L, bt, nx, O⟩ (7, dd, mh, ml) = (⟨L, bt, nx, O⟩, [(4, dd, mh, [])])) := by
   show _ = _
   unfold zj
   simp only
   rw [HH.out.1, show zx (7, dd, mh, ml) (dd, l, true, hd) = (some (dd, l, true, hd), [], [(4, dd, mh, [])]) from zmj rfl rfl];have h := HH.out.2.1;simp only [Option.toList_some, List.singleton_append, List.append_nil]
   rw [← h]
  go_upto_region 25 with fail
  clear d0 d1 d2 d3 x3 m0 lm lx i0 li gi;have hX1 : Z D.heap.size D D.drew := (Below.refl _ _).drew;have HK : Q (∀ w', Z D.heap.size D w' → (w'.cell? ⟨N7, 0, U⟩ = some (G a2 nl c2) ∧ w'.cell? ⟨N7, 1, U⟩ = some (E J bt) ∧ w'.cell? ⟨N7, 2, U⟩ = some (E J nx) ∧ w'.cell? ⟨N7, 3, U⟩ = some (G (some ⟨g, 0, U⟩) n3 c3))) := fun w' hb => ⟨(H3.out.1.ob.below hb H3.out.1.ob.lt).cell 0, (H3.out.1.ob.below hb H3.out.1.ob.lt).cell 1, (H3.out.1.ob.below hb H3.out.1.ob.lt).cell 2, (H3.out.1.ob.below hb H3.out.1.ob.lt).cell 3⟩
  refine zcc (S := fun w' => (w'.cell? ⟨N7, 0, U⟩ = some (G a2 nl c2) ∧ w'.cell? ⟨N7, 1, U⟩ = some (E J bt) ∧ w'.cell? ⟨N7, 2, U⟩ = some (E J nx) ∧ w'.cell? ⟨N7, 3, U⟩ = some (G (some ⟨g, 0, U⟩) n3 c3))) 3 (by kernel_rfl) (HK.out _ hX1) (fun jq => ?_);refine tks 2 [(0, 114), (1, 115)] (b := ?_) rfl (by decide +kernel) (fun _ _ _ _ _ h => h) ?_ jq ?_;rotate_left 1
  ·iterate 2 (refine zab.cons (v := ?_) rfl rfl (by rfl) ?_ ?_; rotate_left 1; (intro w h; (try dsimp only at h); go_simp; try with_reducible rfl))
   exact zab.nil
  refine rdy 2 (by kernel_rfl) rfl (fun K hK => ?_);go_simp;refine (zmx (w.heap.size + 1) 7 dd mh 4 (G ma mn mc) D.drew (H3.out.1.mb.below hX1 H3.out.1.mb.lt)).mono ?_;rintro e w4 ⟨v4, rfl, hM4, hb4⟩;have hX4 := hX1.trans (hb4.mono hX1.size);have hM4' : zm w4 w.heap.size v4 [(4, dd, mh, [])] := hM4.mono (by have h1 := H3.out.1.bel.size; have h2 := hX1.size; omega);clear hM4 hb4;go_wp2_with fail
  refine kgo hK (by decide +kernel) ((HK.out _ hX4)) (fun jq => ?_);clear hK K;have z := H3.out.1.rb.below hX4 H3.out.1.rb.lt;obtain ⟨t0, t1, t2, t3⟩ := z.cells4;obtain ⟨y0, y1, y2, y3⟩ := z.free4;have lr := z.lt;refine rdy 3 (by kernel_rfl) rfl (fun K hK => ?_);go_simp;refine zbb hK (by decide +kernel) ?_;clear hK K jq;refine rdy 4 (by kernel_rfl) rfl (fun K hK => ?_);go_simp;refine zbb hK (by decide +kernel) ?_;clear hK K;refine zbp (by kernel_rfl) ?_ _;obtain ⟨p1, p2, p3⟩ := (H3.out.1.below hX4).ret;obtain ⟨e0, e1, e2, e3⟩ := p3.cells4;have HF : Q ((∀ R : Nat → Prop, (∀ b, R b → b < w.heap.size) → zaa R (r (r (r (r w4 ⟨(w.heap.size + 2), 0, U⟩ (G a2 nl c2)) ⟨(w.heap.size + 2), 1, U⟩ (E J bt)) ⟨(w.heap.size + 2), 2, U⟩ (E J nx)) ⟨(w.heap.size + 2), 3, U⟩ (G (some ⟨g, 0, U⟩) n3 c3)) (.agg #[G a2 nl c2, E J bt, E J nx, G (some ⟨g, 0, U⟩) n3 c3]) (zj ⟨L, bt, nx, O⟩ (7, dd, mh, ml)).1) ∧ zm (r (r (r (r w4 ⟨(w.heap.size + 2), 0, U⟩ (G a2 nl c2)) ⟨(w.heap.size + 2), 1, U⟩ (E J bt)) ⟨(w.heap.size + 2), 2, U⟩ (E J nx)) ⟨(w.heap.size + 2), 3, U⟩ (G (some ⟨g, 0, U⟩) n3 c3)) w.heap.size v4 (zj ⟨L, bt, nx, O⟩ (7, dd, mh, ml)).2 ∧ Z w.heap.size w (r (r (r (r w4 ⟨(w.heap.size + 2), 0, U⟩ (G a2 nl c2)) ⟨(w.heap.size + 2), 1, U⟩ (E J bt)) ⟨(w.heap.size + 2), 2, U⟩ (E J nx)) ⟨(w.heap.size + 2), 3, U⟩ (G (some ⟨g, 0, U⟩) n3 c3))) := by rw [HP.out]; exact ⟨p1, hM4'.set4 z _ _ _ _, p2⟩
  clear p1 p2 p3 hM4' z t0 t1 t2 t3 y0 y1 y2 y3 lr;generalize (r (r (r (r w4 ⟨(w.heap.size + 2), 0, U⟩ (G a2 nl c2)) ⟨(w.heap.size + 2), 1, U⟩ (E J bt)) ⟨(w.heap.size + 2), 2, U⟩ (E J nx)) ⟨(w.heap.size + 2), 3, U⟩ (G (some ⟨g, 0, U⟩) n3 c3)) = Z9 at *;go_wp2_with fail
  refine bodyPost_ret (v := .tuple #[.agg #[G a2 nl c2, E J bt, E J nx, G (some ⟨g, 0, U⟩) n3 c3], v4]) ?_ rfl ⟨_, _, rfl, HF.out.1, HF.out.2.1, HF.out.2.2⟩;simp [results, Tryz.results24, go_sem, e0, e1, e2, e3]
 | false =>
  have HP : Q (zj ⟨L, bt, nx, O⟩ (7, dd, mh, ml) = (⟨L, bt, nx, O⟩, [])) := by
   show _ = _
   unfold zj
   simp only
   rw [HH.out.1, show zx (7, dd, mh, ml) (dd, l, false, hd) = (some (dd, l, false, hd), [], []) from zdo (fun h => absurd (show (7 : Int) = 2 from h.1) (by decide)) (fun h => absurd (show (7 : Int) = 3 from h.1) (by decide)) (fun h => by cases h.2.1) (fun h => by cases h.2)];have h := HH.out.2.1;simp only [Option.toList_some, List.singleton_append, List.append_nil]
   rw [← h]
  go_upto_region 26 with fail
  clear d0 d1 d2 d3 x3 m0 lm lx i0 li gi;obtain ⟨r0, r1, r2, r3⟩ := (H3.out.1).ob.cells4;obtain ⟨t0, t1, t2, t3⟩ := (H3.out.1).rb.cells4;obtain ⟨y0, y1, y2, y3⟩ := (H3.out.1).rb.free4;have lo := (H3.out.1).ob.lt;have lr := (H3.out.1).rb.lt;obtain ⟨p1, p2, p3⟩ := (H3.out.1).ret;obtain ⟨e0, e1, e2, e3⟩ := p3.cells4;have HF : Q ((∀ R : Nat → Prop, (∀ b, R b → b < w.heap.size) → zaa R ((((D.setCell ⟨(w.heap.size + 2), 0, U⟩ (G a2 nl c2)).setCell ⟨(w.heap.size + 2), 1, U⟩ (E J bt)).setCell ⟨(w.heap.size + 2), 2, U⟩ (E J nx)).setCell ⟨(w.heap.size + 2), 3, U⟩ (G (some ⟨g, 0, U⟩) n3 c3)) (.agg #[G a2 nl c2, E J bt, E J nx, G (some ⟨g, 0, U⟩) n3 c3]) (zj ⟨L, bt, nx, O⟩ (7, dd, mh, ml)).1) ∧ zm ((((D.setCell ⟨(w.heap.size + 2), 0, U⟩ (G a2 nl c2)).setCell ⟨(w.heap.size + 2), 1, U⟩ (E J bt)).setCell ⟨(w.heap.size + 2), 2, U⟩ (E J nx)).setCell ⟨(w.heap.size + 2), 3, U⟩ (G (some ⟨g, 0, U⟩) n3 c3)) w.heap.size (G U 0 0) (zj ⟨L, bt, nx, O⟩ (7, dd, mh, ml)).2 ∧ Z w.heap.size w ((((D.setCell ⟨(w.heap.size + 2), 0, U⟩ (G a2 nl c2)).setCell ⟨(w.heap.size + 2), 1, U⟩ (E J bt)).setCell ⟨(w.heap.size + 2), 2, U⟩ (E J nx)).setCell ⟨(w.heap.size + 2), 3, U⟩ (G (some ⟨g, 0, U⟩) n3 c3))) := by rw [HP.out]; exact ⟨p1, zm.nil _ _, p2⟩
  clear p1 p2 p3;go_wp2_with fail
  clear r0 r1 r2 r3 t0 t1 t2 t3 y0 y1 y2 y3 lo lr;generalize ((((D.setCell ⟨(w.heap.size + 2), 0, U⟩ (G a2 nl c2)).setCell ⟨(w.heap.size + 2), 1, U⟩ (E J bt)).setCell ⟨(w.heap.size + 2), 2, U⟩ (E J nx)).setCell ⟨(w.heap.size + 2), 3, U⟩ (G (some ⟨g, 0, U⟩) n3 c3)) = Z9 at *;refine bodyPost_ret (v := .tuple #[.agg #[G a2 nl c2, E J bt, E J nx, G (some ⟨g, 0, U⟩) n3 c3], (G U 0 0)]) ?_ rfl ⟨_, _, rfl, HF.out.1, HF.out.2.1, HF.out.2.2⟩;simp [results, Tryz.results24, go_sem, e0, e1, e2, e3]
theorem znb (la oa : Option Addr) (nl lc no oc : Nat) (bt nx : Int) (L : List R3) (O : List O4) (Y : List XL) (X : List XO) (mk md mh : Int) (ma : Option Addr) (mn mc : Nat) (ml : List P3) (w : World) (H : zbd (fun _ => False) w la nl Y oa no X L O) (hf : zci O) (hok : OkL L) (hl : L.length ≤ 400000) (hr : ∀ o ∈ O, zcd o.2.1) (hw : ∀ o ∈ O, o.2.2.2.Nodup ∧ (∀ k ∈ o.2.2.2, k ∈ zu o.2.1) ∧ o.2.2.2.length ≤ 1000) :
  Calls Tryz.prog 24 #[.agg #[G la nl lc, E J bt, E J nx, G oa no oc], .agg #[E J mk, E J md, E J mh, G ma mn mc]] w fun e w' => ∃ v' sv, e = .returned (.tuple #[v', sv]) ∧ (∀ R : Nat → Prop, (∀ b, R b → b < w.heap.size) → zaa R w' v' (zj ⟨L, bt, nx, O⟩ (mk, md, mh, ml)).1) ∧ zm w' w.heap.size sv (zj ⟨L, bt, nx, O⟩ (mk, md, mh, ml)).2 ∧ Z w.heap.size w w' := by
 by_cases hex : ∃ o ∈ O, o.1 = md
 ·by_cases k2 : mk = 2
  ·subst k2; exact zow la oa nl lc no oc bt nx L O Y X md mh ma mn mc ml w H hf hok hl hex hr hw
  by_cases k3 : mk = 3
  ·subst k3; exact zpg la oa nl lc no oc bt nx L O Y X md mh ma mn mc ml w H hf hok hl hex hr
  by_cases k6 : mk = 6
  ·subst k6; exact zpm la oa nl lc no oc bt nx L O Y X md mh ma mn mc ml w H hf hok hl hex hr hw
  by_cases k7 : mk = 7
  ·subst k7; exact zqb la oa nl lc no oc bt nx L O Y X md mh ma mn mc ml w H hf hok hl hex hr
  exact znp la oa nl lc no oc bt nx L O Y X mk md mh ma mn mc ml w H hf hok hl hex hr k2 k3 k6 k7
 ·exact zo6 la oa nl lc no oc bt nx L O Y X mk md mh ma mn mc ml w H hf hok hl (fun o ho e => hex ⟨o, ho, e⟩)
section
variable {w0 w w' : World} {la : Option Addr} {nl lc : Nat} {bt nx : Int} {oa : Option Addr} {no oc : Nat} {B : Nat} {a2 : Option Addr} {c2 : Nat} {Y2 : List XL} {L : List R3} {a3 : Option Addr} {n3 c3 : Nat} {X2 : List XO} {O : List O4}
theorem zbu.grownM (H : zbu w0 la nl lc bt nx oa no oc B a2 c2 Y2 L w a3 n3 c3 X2 O) {base : Nat} {v : Value} {jz : List XM} (hg : w.grownBy w' v.ownBlock) (hZ : zd 25 4 zcf w base v jz) (hbase : w0.heap.size ≤ base) : zbu w0 la nl lc bt nx oa no oc B a2 c2 Y2 L w' a3 n3 c3 X2 O := by
 have hbel := H.bel.grown hg H.bel.size (fun k hk => by have := hZ.base _ hk; omega);exact ⟨H.hb.keptT hg (hZ.grownT (by decide)), H.rb.keptT hg (hZ.grownT (by decide)), H.ob.keptT hg (hZ.grownT (by decide)), ⟨⟨H.hd.log.1.keptT hg (hZ.grownT (by decide)), fun y hy => (H.hd.log.2 y hy).calm (zi.grown hg (hZ.grownT (by decide)))⟩, H.hd.says, H.hd.opn.keptT hg (hZ.grownT (by decide)), H.hd.osays, fun x hx => ⟨(H.hd.op x hx).1.calm (zi.grown hg (hZ.grownT (by decide))), (H.hd.op x hx).2.calm (zi.grown hg (hZ.grownT (by decide)))⟩⟩, hbel, H.ne⟩
theorem zbu.del (H : zbu w0 la nl lc bt nx oa no oc B a2 c2 Y2 L w a3 n3 c3 X2 O) (hg : w.grownBy w' (Value.ownBlock (G a3 n3 c3))) {a4 : Option Addr} {n4 c4 : Nat} {X' : List XO} {O' : List O4} (h4 : zd 58 4 zan w' (w0.heap.size + 2) (G a4 n4 c4) X') (hs : ∀ x ∈ X', x ∈ X2) (hO : X'.map zw = O') :
  zbu w0 la nl lc bt nx oa no oc B a2 c2 Y2 L (r w' ⟨B, 3, U⟩ (G a4 n4 c4)) a4 n4 c4 X' O' := by
 have hne : ∀ b, b < w0.heap.size + 2 → Value.ownBlock (G a3 n3 c3) ≠ some b := fun b hb e => by have := H.hd.opn.base _ e; omega
 have o4 := H.ob.keptT hg (H.hd.opn.grownT (by decide));have hB := H.ne;have hcP : zi 90 w w' := zi.grown hg (H.hd.opn.grownT (by decide));have hcI : zi 3 w w' := zi.grown hg (H.hd.opn.grownT (by decide));have hd' : zbl w' (w0.heap.size + 2) a2 nl c2 Y2 a4 n4 c4 X' L O' := ⟨⟨H.hd.log.1.keptT hg (H.hd.opn.grownT (by decide)), fun y hy => (H.hd.log.2 y hy).calm hcP⟩, H.hd.says, h4, hO, fun x hx => ⟨(H.hd.op x (hs x hx)).1.calm hcP, (H.hd.op x (hs x hx)).2.calm hcI⟩⟩;exact ⟨(H.hb.keptNe hg (hne _ (by omega))).setOther (a := ⟨B, 3, U⟩) (by simp; omega) _, (H.rb.keptNe hg (hne _ (by omega))).setOther (a := ⟨B, 3, U⟩) (by simp; omega) _, o4.set 3 _, hd'.set o4 (by decide) (by decide) (by decide) (by decide) _, (H.bel.grown hg H.bel.size (fun k hk => by have := H.hd.opn.base _ hk; omega)).setCell (by simp; omega) _, hB⟩
end
theorem entersQ : zfg 49 := fun _ _ => rfl
theorem quit1_any (v0 v1 v3 : Value) (dec : Bool) (w : World) :
  Calls Tryz.prog 49 (#[.agg #[v0, v1, .bool dec, v3]] ++ #[]) w fun e w' => e = .returned (.bool (!dec)) ∧ Z w.heap.size w w' := by
 have hb0 := zg w (T #[v0, v1, .bool dec, v3] 58);show Calls Tryz.prog 49 #[.agg #[v0, v1, .bool dec, v3]] w _
 go_enter Tryz.func49, Tryz.ntmps49
 go_wp2;go_ret;exact ⟨rfl, hb0⟩
theorem zpl (la oa : Option Addr) (nl lc no oc : Nat) (bt nx : Int) (L : List R3) (O : List O4) (Y : List XL) (X : List XO) (w : World) (H : zbd (fun _ => False) w la nl Y oa no X L O) (hf : zci O) (hok : OkL L) (hl : L.length ≤ 400000) (hr : ∀ o ∈ O, zcd o.2.1) :
  Calls Tryz.prog 15 #[.agg #[G la nl lc, E J bt, E J nx, G oa no oc]] w fun e w' => ∃ v' sv, e = .returned (.tuple #[v', sv]) ∧ (∀ R : Nat → Prop, (∀ b, R b → b < w.heap.size) → zaa R w' v' (zt ⟨L, bt, nx, O⟩).1) ∧ zm w' w.heap.size sv (zt ⟨L, bt, nx, O⟩).2 ∧ Z w.heap.size w w' := by
 have hb0 := za4 w (T #[G la nl lc, E J bt, E J nx, G oa no oc] 29) (T #[G U 0 0, E J 0, E J 0, G U 0 0] 29);have h0 : Blk ((w.alloc (T #[G la nl lc, E J bt, E J nx, G oa no oc] 29)).alloc (T #[G U 0 0, E J 0, E J 0, G U 0 0] 29)) w.heap.size #[G la nl lc, E J bt, E J nx, G oa no oc] 29 := (Blk.new _ _ _).alloc _;have hz0 : Blk ((w.alloc (T #[G la nl lc, E J bt, E J nx, G oa no oc] 29)).alloc (T #[G U 0 0, E J 0, E J 0, G U 0 0] 29)) (w.heap.size + 1) #[G U 0 0, E J 0, E J 0, G U 0 0] 29 := zap _ _ _;have hs0 : ((w.alloc (T #[G la nl lc, E J bt, E J nx, G oa no oc] 29)).alloc (T #[G U 0 0, E J 0, E J 0, G U 0 0] 29)).heap.size = w.heap.size + 2 := by simp
 have hXO : X.length = O.length := by rw [← H.osays, List.length_map]
 have hnL : nl = L.length := by rw [← H.says, List.length_map]; exact H.ln
 have HG := zE (H.below hb0) hf hok hl hnL;have HW := zD hXO hf H.on H;have HRR := zA hr;have hno : no ≤ 100000 := by have h1 := hf.1; have h2 := H.on; omega
 clear H hf hok hl hXO hnL hr;go_enter Tryz.func15, Tryz.ntmps15
 go_upto_region 1 with fail
 generalize ((w.alloc (T #[G la nl lc, E J bt, E J nx, G oa no oc] 29)).alloc (T #[G U 0 0, E J 0, E J 0, G U 0 0] 29)) = V at *;obtain ⟨x0, x1, x2, x3⟩ := h0.cells4;have l0 := h0.lt;go_wp2_with fail
 refine (zib la oa nl lc no oc bt nx Y X L O V HG.out.1 HG.out.2.1 HG.out.2.2.1 (by have := HG.out.2.2.2.1; omega)).mono ?_;rintro e w2 ⟨_, rfl, ⟨a2, n2, c2, Y2, a3, n3, c3, X2, rfl, hO2⟩, jX⟩;have hn2 : n2 = nl := by rw [(hO2.log.1.at za7).2.1, HG.out.2.2.2.2, ← hO2.says, List.length_map]
 subst hn2
 have H1 : Q (zbu w la n2 lc bt nx oa no oc w2.heap.size a2 c2 Y2 L (w2.alloc (T #[G a2 n2 c2, E J bt, E J nx, G a3 n3 c3] 29)) a3 n3 c3 X2 O) := by
  have hbb := zg w2 (T #[G a2 n2 c2, E J bt, E J nx, G a3 n3 c3] 29);have hsz := jX.size;exact ⟨(h0.below jX h0.lt).below hbb (by omega), (hz0.below jX hz0.lt).below hbb (by omega), Blk.new _ _ _, (hO2.mono (by omega : w.heap.size + 2 ≤ V.heap.size)).below hbb, (hb0.trans (jX.mono hb0.size)).trans (hbb.mono (by omega)), by omega⟩
 clear hO2 jX hb0 hz0 h0 hs0 x0 x1 x2 x3 l0;go_upto_region 2 with fail
 obtain ⟨N7, hN7⟩ : ∃ N7, N7 = w2.heap.size := ⟨_, rfl⟩;rw [← hN7] at H1;generalize w2.alloc (T #[G a2 n2 c2, E J bt, E J nx, G a3 n3 c3] 29) = A at *;rw [← hN7];clear hN7;obtain ⟨nl, hnl'⟩ : ∃ nl, nl = n2 := ⟨_, rfl⟩;subst hnl';have x3 := H1.out.hb.cell 3;simp only [kab, kac, kae] at x3
 have l0 := H1.out.hb.lt;go_wp2;clear x3 l0;go_loopw [5, 13] (fun v i w' => ∃ k : Nat, k ≤ no ∧ i = E J k ∧ Q (zbu w la nl lc bt nx oa no oc N7 a2 c2 Y2 L w' a3 n3 c3 X2 O ∧ zm w' w.heap.size v (((O.take k).filter fun o => !o.2.2.1).flatMap zbc))) (fun _ i _ => no - (intOf i).toNat)
 case atStart => exact ⟨0, Nat.zero_le _, rfl, H1.out, by simp only [List.take_zero, List.filter_nil, List.flatMap_nil]; exact zm.nil _ _⟩
 case round =>
  obtain ⟨k, hk, rfl, hH⟩ := hrel;obtain ⟨hOS, hM⟩ := hH.out;by_cases hlt : k < no
  ·have hkX : k < X.length := by have := HW.out.2.2.1; omega
   have hkO : k < O.length := by have := HW.out.1; omega
   have hOk : O[k] = zw X[k] := by
    have : O = X.map zw := HW.out.2.2.2.osays.symm;subst this;rw [List.getElem_map]
   have hfk := HW.out.2.1.2 O[k] (kad hkO);have hrk := HRR.out O[k] (kad hkO);have hop := HW.out.2.2.2.oparts _ (kad hkX)
   have HE : Q (((O.take (k + 1)).filter fun o => !o.2.2.1).flatMap zbc = ((O.take k).filter fun o => !o.2.2.1).flatMap zbc ++ (if O[k].2.2.1 = true then [] else zbc O[k])) := by
    show _ = _
    rw [zax hkO, List.filter_append, List.flatMap_append];congr 1
    cases h : O[k].2.2.1 <;> simp [h]
   have hml : (((O.take k).filter fun o => !o.2.2.1).flatMap zbc).length ≤ 300000 := by
    have h1 := zf9 zgn ((O.take k).filter fun o => !o.2.2.1);have h2 : ((O.take k).filter fun o => !o.2.2.1).length ≤ (O.take k).length := List.length_filter_le _ _;rw [List.length_take] at h2;omega
   generalize ((O.take k).filter fun o => !o.2.2.1).flatMap zbc = ms at *;obtain ⟨jz, hZl, hO, hZ, hT⟩ := hM.len;obtain ⟨av, nv, cv, rfl⟩ := hO.slice zby
   obtain ⟨g, o, rfl, hg, d0, d1, d2, d3, hq⟩ := ((HW.out.2.2.2.below hOS.bel).opns.lies).get hkX;rw [hOk] at hfk hrk HE;generalize X[k] = x at *;obtain ⟨dd, ⟨⟨pa, pc⟩, l⟩, dec, ⟨ha, hc⟩, hd⟩ := x;simp only [zw] at d0 d1 d2 d3 hfk hop hrk HE
   obtain ⟨ln, hn, HLL⟩ : ∃ ln hn, Q (l.length = ln ∧ hd.length = hn) := ⟨_, _, rfl, rfl⟩;rw [HLL.out.1] at d1;rw [HLL.out.2] at d3;have HQ : Q (zai w pa l ∧ zcd l) := ⟨hop.1.1, hrk⟩;have H1 : Q (zbu w la nl lc bt nx (some ⟨g, o, U⟩) no oc N7 a2 c2 Y2 L (wr.alloc (T #[E J dd, G pa ln pc, .bool dec, G ha hn hc] 58)) a3 n3 c3 X2 O ∧ Blk (wr.alloc (T #[E J dd, G pa ln pc, .bool dec, G ha hn hc] 58)) wr.heap.size #[E J dd, G pa ln pc, .bool dec, G ha hn hc] 58 ∧ zd 25 4 zcf (wr.alloc (T #[E J dd, G pa ln pc, .bool dec, G ha hn hc] 58)) w.heap.size (G av nv cv) jz ∧ (∀ x ∈ jz, zam w.heap.size (wr.alloc (T #[E J dd, G pa ln pc, .bool dec, G ha hn hc] 58)) x.2.2.2.1.1 x.2.2.2.2) ∧ jz.map zde = ms) := ⟨hOS.below (zg wr _), Blk.new _ _ _, hO.below (zg wr _) (kaa _), fun x hx => (hT x hx).calm (zi.alloc _ _ _), hZ⟩;have hZ3 : jz.length ≤ 300000 := by omega
   go_upto_region 6 with fail
   clear d0 d1 d2 d3 hg hH hOS hM hO hZ hT hq hop hfk hOk hrk hkX hkO hml hZl;generalize wr.alloc (T #[E J dd, G pa ln pc, .bool dec, G ha hn hc] 58) = A at *;obtain ⟨b0, b1, b2, b3⟩ := H1.out.2.1.cells4;have lb := H1.out.2.1.lt
   cases dec with
   | true =>
    have HF : Q (zbu w la nl lc bt nx (some ⟨g, o, U⟩) no oc N7 a2 c2 Y2 L A a3 n3 c3 X2 O ∧ zm A w.heap.size (G av nv cv) ms) := ⟨H1.out.1, jz, H1.out.2.2.1, H1.out.2.2.2.2, H1.out.2.2.2.1⟩;go_wp2;go_roundw
    case rel => exact ⟨k + 1, by omega, by go_num, by rw [HE.out]; exact ⟨HF.out.1, by simpa using HF.out.2⟩⟩
    case measure => simp [intOf]; omega
   | false =>
    go_wp2_with fail
    clear b0 b1 b2 b3 lb;refine (zlp dd pa ln pc l false ha hn hc hd A HLL.out.1.symm HQ.out.2 (HQ.out.1.below H1.out.1.bel)).mono ?_;rintro e w2 ⟨v2, rfl, hM2, hb2⟩;have hml2 := zgn (dd, l, false, hd);obtain ⟨zX, hUl, hU, hUs, hUT⟩ := hM2.len;obtain ⟨a9, n9, c9, rfl⟩ := hU.slice zby
    have hUr := hU.at zby
    have HU := zE hUs hUT hUr.2.1 hUr.1 hb2;have hU3 : zX.length ≤ 3 := by omega
    have hs2 := hb2.size;have hwA : w.heap.size + 2 ≤ A.heap.size := by have := H1.out.1.rb.lt; omega
    clear hM2 hU hUs hUT hUr hb2 hUl hml2;go_wp2_with (at_builtin; refine zbk zby oneM Tryz.underlying41 zfr rfl (by decide) _ rfl _ _ rfl w.heap.size _ jz rfl (H1.out.2.2.1.below HU.out.2.2.2.2 (kaa _)) a9 n9 c9 zX rfl HU.out.2.2.1 HU.out.2.2.2.1 (by unfold maxLen; omega) (by omega) (by omega) ?_; intro a8 n8 c8 w8 hown8 hn8 hgrow8 hat8; clear hn8 hat8)
    have hoA := H1.out.2.2.1.below HU.out.2.2.2.2 (kaa _);have HF := zB ((H1.out.1.below HU.out.2.2.2.2).grownM hgrow8 hoA (kaa _)) (zm.app H1.out.2.2.2.2 H1.out.2.2.2.1 (zi.below HU.out.2.2.2.2 (kaa _)) hoA hgrow8 hown8 HU.out.1 (fun y hy => (HU.out.2.1 y hy).mono (by omega)));clear hoA hown8 hgrow8;go_wp2;go_roundw
    case rel => exact ⟨k + 1, by omega, by go_num, by rw [HE.out]; exact ⟨HF.out.1, by simpa using HF.out.2⟩⟩
    case measure => simp [intOf]; omega
  ·have hT : O.take k = O := List.take_of_length_le (by have h1 := HW.out.1; have h2 := HW.out.2.2.1; omega)
   rw [hT] at hM;have H1 := zB hOS hM;clear hH hOS hM hT;have r3 := H1.out.1.ob.cell 3;simp only [kab, kac, kae] at r3
   have lo := H1.out.1.ob.lt;go_wp2_with fail
   refine (zo2 49 #[] entersQ (fun x => !x.2.2.1) a3 X2 c3 n3 (w.heap.size + 2) wr (by have h1 := H1.out.1.hd.osays; have h2 := HW.out.2.1.1; rw [← h1, List.length_map] at h2; omega) H1.out.1.hd.opn (fun x _ w' _ => quit1_any _ _ _ _ w')).mono ?_;rintro e w4 ⟨n4, rfl, ho4, hg4⟩;have hX4 : (X2.filter fun x => !(!x.2.2.1)) = X2.filter fun x => x.2.2.1 := by congr 1; funext x; simp
   rw [hX4] at ho4;have o4 := H1.out.1.ob.keptT hg4 (H1.out.1.hd.opn.grownT (by decide))
   have H4 : Q (zbu w la nl lc bt nx oa no oc N7 a2 c2 Y2 L (r w4 ⟨N7, 3, U⟩ (G a3 n4 c3)) a3 n4 c3 (X2.filter fun x => x.2.2.1) (O.filter fun o => o.2.2.1) ∧ zm (r w4 ⟨N7, 3, U⟩ (G a3 n4 c3)) w.heap.size u5 (((O).filter fun o => !o.2.2.1).flatMap zbc)) := by
    refine ⟨H1.out.1.del hg4 ho4 (fun x hx => (List.mem_filter.1 hx).1) ?_, ?_⟩
    ·rw [← H1.out.1.hd.osays, List.filter_map]; rfl
    ·obtain ⟨zX, z1, z2, z3⟩ := H1.out.2
     exact ⟨zX, (z1.keptT hg4 (H1.out.1.hd.opn.grownT (by decide))).setOther (a := ⟨N7, 3, U⟩) o4 (by decide) _, z2, fun x hx => ((z3 x hx).calm (zi.grown hg4 (H1.out.1.hd.opn.grownT (by decide)))).calm (zi.setCell (a := ⟨N7, 3, U⟩) o4 (by decide) _)⟩
   have p3 := o4.cell 3;have q3 := o4.free 3;have l4 := o4.lt;simp only [kab, kac, kae] at p3
   clear ho4 hg4 hX4 r3 lo;go_upto_region 10 with fail
   clear p3 q3 l4 o4 H1;generalize (r w4 ⟨N7, 3, U⟩ (G a3 n4 c3)) = S4 at *;obtain ⟨r0, r1, r2, r3⟩ := H4.out.1.ob.cells4;obtain ⟨t0, t1, t2, t3⟩ := H4.out.1.rb.cells4;obtain ⟨y0, y1, y2, y3⟩ := H4.out.1.rb.free4;have lo := H4.out.1.ob.lt;have lr := H4.out.1.rb.lt;have z := H4.out.1.rb;have hk4 := zct z (G a2 nl c2) (E J bt) (E J nx) (G a3 n4 c3);obtain ⟨e0, e1, e2, e3⟩ := hk4.1.cells4;have hO : zbl ((((S4.setCell ⟨(w.heap.size + 1), 0, U⟩ (G a2 nl c2)).setCell ⟨(w.heap.size + 1), 1, U⟩ (E J bt)).setCell ⟨(w.heap.size + 1), 2, U⟩ (E J nx)).setCell ⟨(w.heap.size + 1), 3, U⟩ (G a3 n4 c3)) w.heap.size a2 nl c2 Y2 a3 n4 c3 (X2.filter fun x => x.2.2.1) L (O.filter fun o => o.2.2.1) := (((((H4.out.1.hd.mono (by omega : w.heap.size ≤ w.heap.size + 2)).set z (by decide) (by decide) (by decide) (by decide) _).set (z.set 0 _) (by decide) (by decide) (by decide) (by decide) _).set ((z.set 0 _).set 1 _) (by decide) (by decide) (by decide) (by decide) _).set (((z.set 0 _).set 1 _).set 2 _) (by decide) (by decide) (by decide) (by decide) _);have HF : Q ((∀ R : Nat → Prop, (∀ b, R b → b < w.heap.size) → zaa R ((((S4.setCell ⟨(w.heap.size + 1), 0, U⟩ (G a2 nl c2)).setCell ⟨(w.heap.size + 1), 1, U⟩ (E J bt)).setCell ⟨(w.heap.size + 1), 2, U⟩ (E J nx)).setCell ⟨(w.heap.size + 1), 3, U⟩ (G a3 n4 c3)) (.agg #[G a2 nl c2, E J bt, E J nx, G a3 n4 c3]) (zt ⟨L, bt, nx, O⟩).1) ∧ zm ((((S4.setCell ⟨(w.heap.size + 1), 0, U⟩ (G a2 nl c2)).setCell ⟨(w.heap.size + 1), 1, U⟩ (E J bt)).setCell ⟨(w.heap.size + 1), 2, U⟩ (E J nx)).setCell ⟨(w.heap.size + 1), 3, U⟩ (G a3 n4 c3)) w.heap.size u5 (zt ⟨L, bt, nx, O⟩).2 ∧ Z w.heap.size w ((((S4.setCell ⟨(w.heap.size + 1), 0, U⟩ (G a2 nl c2)).setCell ⟨(w.heap.size + 1), 1, U⟩ (E J bt)).setCell ⟨(w.heap.size + 1), 2, U⟩ (E J nx)).setCell ⟨(w.heap.size + 1), 3, U⟩ (G a3 n4 c3))) := ⟨fun R hR => hO.v (g := ⟨L, bt, nx, O.filter fun o => o.2.2.1⟩) hR rfl rfl, H4.out.2.set4 z _ _ _ _, H4.out.1.bel.trans (hk4.2.below H4.out.1.bel.size (fun b hb => by omega))⟩
   clear z hk4 hO;go_wp2_with fail
   clear r0 r1 r2 r3 t0 t1 t2 t3 y0 y1 y2 y3 lo lr;generalize ((((S4.setCell ⟨(w.heap.size + 1), 0, U⟩ (G a2 nl c2)).setCell ⟨(w.heap.size + 1), 1, U⟩ (E J bt)).setCell ⟨(w.heap.size + 1), 2, U⟩ (E J nx)).setCell ⟨(w.heap.size + 1), 3, U⟩ (G a3 n4 c3)) = Z9 at *;refine bodyPost_ret (v := .tuple #[.agg #[G a2 nl c2, E J bt, E J nx, G a3 n4 c3], u5]) ?_ rfl ⟨_, _, rfl, HF.out.1, HF.out.2.1, HF.out.2.2⟩;simp [results, Tryz.results15, go_sem, e0, e1, e2, e3]
theorem zqr (la oa : Option Addr) (nl lc no oc : Nat) (bt nx : Int) (X : List XO) (O : List O4) (w : World) (h : zfw w oa no X O) (hf : zci O) (hr : ∀ o ∈ O, zcd o.2.1) :
  Calls Tryz.prog 18 #[.agg #[G la nl lc, E J bt, E J nx, G oa no oc]] w fun e w' => ∃ v', e = .returned v' ∧ zm w' w.heap.size v' (O.flatMap zba) ∧ Z w.heap.size w w' := by
 have HN : Q (zfw w oa no X O ∧ zci O ∧ X.length = O.length) := ⟨h, hf, by rw [← h.says, List.length_map]⟩;have hnl : no ≤ 100000 := by have h1 := h.n; have h2 := hf.1; have h3 := HN.out.2.2; omega
 have HRR := zA hr;clear h hf hr;have hb0 := zg w (T #[G la nl lc, E J bt, E J nx, G oa no oc] 29);go_enter Tryz.func18, Tryz.ntmps18
 go_wp2;generalize w.alloc (T #[G la nl lc, E J bt, E J nx, G oa no oc] 29) = W at *;go_loopw [3, 9] (fun v i w' => ∃ k : Nat, k ≤ no ∧ i = E J k ∧ Q (zm w' w.heap.size v ((O.take k).flatMap zba) ∧ Z w.heap.size w w')) (fun _ i _ => no - (intOf i).toNat)
 case atStart => exact ⟨0, Nat.zero_le _, rfl, zm.nil _ _, hb0⟩
 case round =>
  obtain ⟨k, hk, rfl, hR⟩ := hrel;by_cases hlt : k < no
  ·have hkX : k < X.length := by have := HN.out.1.n; omega
   have hkO : k < O.length := by have := HN.out.2.2; omega
   obtain ⟨hM, hbw⟩ := hR.out;have HE : Q ((O.take (k + 1)).flatMap zba = (O.take k).flatMap zba ++ zba O[k]) := zlt hkO;have hml : ((O.take k).flatMap zba).length ≤ 300000 := by have h1 := zf9 zgk (O.take k); rw [List.length_take] at h1; omega
   have hsz := hbw.size;generalize (O.take k).flatMap zba = ms at *;obtain ⟨jz, hZl, hO, hZ, hT⟩ := hM.len;obtain ⟨av, nv, cv, rfl⟩ := hO.slice zby
   obtain ⟨g, o, rfl, hg, d0, d1, d2, d3, hq⟩ := (HN.out.1.lies.below hbw).get hkX
   have hOk : O[k] = zw X[k] := by
    have : O = X.map zw := HN.out.1.says.symm;subst this;rw [List.getElem_map]
   have hfk := HN.out.2.1.2 O[k] (kad hkO);have hrk := HRR.out O[k] (kad hkO);rw [hOk] at hfk HE hrk;generalize X[k] = x at *;obtain ⟨dd, ⟨⟨pa, pc⟩, l⟩, dec, ⟨ha, hc⟩, hd⟩ := x;simp only [zw] at d0 d1 d2 d3 hq hfk HE hrk
   have HRK := zA hrk;clear hrk;have HW : Q (zd 25 4 zcf wr w.heap.size (G av nv cv) jz ∧ jz.map zde = ms ∧ (∀ x ∈ jz, zam w.heap.size wr x.2.2.2.1.1 x.2.2.2.2) ∧ Z w.heap.size w wr ∧ zai wr pa l ∧ zk 1 zq wr ha hd ∧ l.length ≤ 4 ∧ hd.length ≤ 100000) := ⟨hO, hZ, hT, hbw, hq.1, hq.2, hfk.1, hfk.2⟩;have HLL : ∃ ln hn, Q (l.length = ln ∧ hd.length = hn) := ⟨_, _, rfl, rfl⟩;obtain ⟨ln, hn, HLL⟩ := HLL;rw [HLL.out.1] at d1;rw [HLL.out.2] at d3;have hZ3 : jz.length ≤ 300000 := by omega
   clear hR hM hO hZ hT hbw hq hfk hOk hkO hkX hml hZl;go_wp2_with fail
   have hbA := zg wr (T #[E J dd, G pa ln pc, .bool dec, G ha hn hc] 58);have hsA : (wr.alloc (T #[E J dd, G pa ln pc, .bool dec, G ha hn hc] 58)).heap.size = wr.heap.size + 1 := by simp
   generalize wr.alloc (T #[E J dd, G pa ln pc, .bool dec, G ha hn hc] 58) = A at *;refine (zi8 dd pa ln pc l dec ha hn hc hd A HLL.out.1.symm HRK.out (HW.out.2.2.2.2.1.below hbA) HLL.out.2.symm (by have := HW.out.2.2.2.2.2.2.2; omega) (HW.out.2.2.2.2.2.1.below hbA)).mono ?_;rintro e w2 ⟨v2, rfl, hM2, hb2⟩;have hml2 := zgk (dd, l, dec, hd);obtain ⟨zX, hUl, hU, hUs, hUT⟩ := hM2.len;obtain ⟨a2, n2, c2, rfl⟩ := hU.slice zby
   have hUr := hU.at zby
   have HU := zE hUs hUT hUr.2.1 hUr.1 (hbA.trans (hb2.mono (by omega)));have hU3 : zX.length ≤ 3 := by omega
   have hs2 : wr.heap.size + 1 ≤ w2.heap.size := by have := hb2.size; omega
   clear hM2 hU hUs hUT hUr hb2 hbA hUl hml2 d0 d1 d2 d3;go_wp2_with (at_builtin; refine zbk zby oneM Tryz.underlying41 zfr rfl (by decide) _ rfl _ _ rfl w.heap.size _ jz rfl (HW.out.1.below HU.out.2.2.2.2 (kaa _)) a2 n2 c2 zX rfl HU.out.2.2.1 HU.out.2.2.2.1 (by unfold maxLen; omega) (by omega) (by omega) ?_; intro a4 n4 c4 w4 jv hn4 jy jQ; clear hn4)
   have HF : Q (zm w4 w.heap.size (G a4 n4 c4) ((O.take (k + 1)).flatMap zba) ∧ Z w.heap.size w w4) := by
    refine ⟨?_, ?_⟩
    ·rw [HE.out]
     exact zm.app HW.out.2.1 HW.out.2.2.1 (zi.below HU.out.2.2.2.2 (kaa _)) (HW.out.1.below HU.out.2.2.2.2 (kaa _)) jy jv HU.out.1 (fun y hy => (HU.out.2.1 y hy).mono (by omega))
    ·exact (HW.out.2.2.2.1.trans (HU.out.2.2.2.2.mono hsz)).grown jy (by omega) HW.out.1.base
   clear jv jy jQ;go_wp2;go_roundw
   case rel => exact ⟨k + 1, by omega, by go_num, HF⟩
   case measure => simp [intOf]; omega
  ·have HF : Q (zm wr w.heap.size u3 (O.flatMap zba) ∧ Z w.heap.size w wr) := by
    have := hR.out;rwa [List.take_of_length_le (by have h1 := HN.out.1.n; have h2 := HN.out.2.2; omega)] at this
   clear hR;go_wp2;go_ret;exact ⟨_, rfl, HF.out.1, HF.out.2⟩
end Go.Proofs.YtpcnlifmkhagkaaGreat
