import Derived.Test.YtpcnlifmkhagkaaGreatKTJ19
set_option maxRecDepth 20000
set_option maxHeartbeats 20000000
namespace Go.Proofs.YtpcnlifmkhagkaaGreat
open Go.RowKit
open Go.Value renaming slice → G, int → E
open Go.IntKind renaming i64 → J
open _root_.Option renaming none → U
open Go.Obj renaming cells → T
open Go.RowKit renaming Hid → Q, Below → Z
open Go.World renaming setCell → r
open _root_.Nat renaming le_refl → kaa
open _root_.List renaming getElem?_toArray → kab, getElem?_cons_zero → kac, getElem_mem → kad, getElem?_cons_succ → kae
attribute [local go_sem ↓] Go.wp_at_zero Go.wp_at_succ
theorem zpo (la oa : Option Addr) (nl lc no oc : Nat) (bt nx : Int) (L : List R3) (O : List O4) (Y : List XL) (X : List XO) (md mh : Int) (ma : Option Addr) (mn mc : Nat) (ml : List P3) (w : World) (H : zbh (fun _ => False) w la nl Y oa no X L O) (hf : zcf O) (hok : OkL L) (hl : L.length ≤ 400000) (hex : ∃ o ∈ O, o.1 = md) (hr : ∀ o ∈ O, zcj o.2.1) :
  Calls Tryz.prog 24 #[.agg #[G la nl lc, E J bt, E J nx, G oa no oc], .agg #[E J 7, E J md, E J mh, G ma mn mc]] w fun e w' => ∃ v' sv, e = .returned (.tuple #[v', sv]) ∧ (∀ R : Nat → Prop, (∀ b, R b → b < w.heap.size) → zy R w' v' (zc ⟨L, bt, nx, O⟩ (7, md, mh, ml)).1) ∧ zm w' w.heap.size sv (zc ⟨L, bt, nx, O⟩ (7, md, mh, ml)).2 ∧ Z w.heap.size w w' := by
 have hb0 : Z w.heap.size w (((w.alloc (T #[G la nl lc, E J bt, E J nx, G oa no oc] 29)).alloc (T #[E J 7, E J md, E J mh, G ma mn mc] 25)).alloc (T #[G U 0 0, E J 0, E J 0, G U 0 0] 29)) := (zaw w (T #[G la nl lc, E J bt, E J nx, G oa no oc] 29) (T #[E J 7, E J md, E J mh, G ma mn mc] 25)).alloc (by simp; omega) _;have h0 : Blk (((w.alloc (T #[G la nl lc, E J bt, E J nx, G oa no oc] 29)).alloc (T #[E J 7, E J md, E J mh, G ma mn mc] 25)).alloc (T #[G U 0 0, E J 0, E J 0, G U 0 0] 29)) w.heap.size #[G la nl lc, E J bt, E J nx, G oa no oc] 29 := ((Blk.new _ _ _).alloc _).alloc _;have hm0 : Blk (((w.alloc (T #[G la nl lc, E J bt, E J nx, G oa no oc] 29)).alloc (T #[E J 7, E J md, E J mh, G ma mn mc] 25)).alloc (T #[G U 0 0, E J 0, E J 0, G U 0 0] 29)) (w.heap.size + 1) #[E J 7, E J md, E J mh, G ma mn mc] 25 := Blk.alloc (zao _ _ _) _;have hs2 : ((w.alloc (T #[G la nl lc, E J bt, E J nx, G oa no oc] 29)).alloc (T #[E J 7, E J md, E J mh, G ma mn mc] 25)).heap.size = w.heap.size + 2 := by simp
 have hz0 : Blk (((w.alloc (T #[G la nl lc, E J bt, E J nx, G oa no oc] 29)).alloc (T #[E J 7, E J md, E J mh, G ma mn mc] 25)).alloc (T #[G U 0 0, E J 0, E J 0, G U 0 0] 29)) (w.heap.size + 2) #[G U 0 0, E J 0, E J 0, G U 0 0] 29 := by rw [← hs2]; exact Blk.new _ _ _
 have hs0 : (((w.alloc (T #[G la nl lc, E J bt, E J nx, G oa no oc] 29)).alloc (T #[E J 7, E J md, E J mh, G ma mn mc] 25)).alloc (T #[G U 0 0, E J 0, E J 0, G U 0 0] 29)).heap.size = w.heap.size + 3 := by simp
 have hnL : nl = L.length := by rw [← H.says, List.length_map]; exact H.ln
 have HG := zE (H.below hb0) hf hok hl hnL;clear H hf hok hl hnL hs2;go_enter Tryz.func24, Tryz.ntmps24
 go_upto_region 1 with fail
 generalize (((w.alloc (T #[G la nl lc, E J bt, E J nx, G oa no oc] 29)).alloc (T #[E J 7, E J md, E J mh, G ma mn mc] 25)).alloc (T #[G U 0 0, E J 0, E J 0, G U 0 0] 29)) = V at *;obtain ⟨x0, x1, x2, x3⟩ := h0.cells4;have l0 := h0.lt;go_wp2_with fail
 refine (zf7 la oa nl lc no oc bt nx Y X L O V HG.out.1 HG.out.2.1 HG.out.2.2.1 (by have := HG.out.2.2.2.1; omega)).mono ?_;rintro e w2 ⟨_, rfl, ⟨a2, n2, c2, Y2, a3, n3, c3, X2, rfl, hO2, hE2⟩, hbw2⟩;have hn2 : n2 = nl := by rw [(hO2.log.1.at za7).2.1, HG.out.2.2.2.2, ← hO2.says, List.length_map]
 subst hn2
 have H1 : Q (HrS w 7 md mh (G ma mn mc) bt nx w2.heap.size (w2.alloc (T #[G a2 n2 c2, E J bt, E J nx, G a3 n3 c3] 29)) a2 n2 c2 Y2 L a3 n3 c3 X2 O) := by
  have hbb := zh w2 (T #[G a2 n2 c2, E J bt, E J nx, G a3 n3 c3] 29);have hsz := hbw2.size;exact ⟨(hm0.below hbw2 hm0.lt).below hbb (by omega), (hz0.below hbw2 hz0.lt).below hbb (by omega), Blk.new _ _ _, (hO2.mono (by omega : w.heap.size + 3 ≤ V.heap.size)).below hbb, (hE2.mono (by omega : w.heap.size + 3 ≤ V.heap.size)).below hbb, (hb0.trans (hbw2.mono hb0.size)).trans (hbb.mono (by omega)), by omega⟩
 clear hO2 hE2 hbw2 hb0 hz0 hm0 h0 hs0 x0 x1 x2 x3 l0;go_upto_region 3 with fail
 obtain ⟨N7, hN7⟩ : ∃ N7, N7 = w2.heap.size := ⟨_, rfl⟩;rw [← hN7] at H1;generalize w2.alloc (T #[G a2 n2 c2, E J bt, E J nx, G a3 n3 c3] 29) = A at *;rw [← hN7];clear hN7;obtain ⟨nl, hnl'⟩ : ∃ nl, nl = n2 := ⟨_, rfl⟩;subst hnl';have x3 := H1.out.ob.cell 3;simp only [kab, kac, kae] at x3
 have l0 := H1.out.ob.lt;have hn3 : Q (n3 = X2.length ∧ X2.length ≤ 100000) := ⟨(H1.out.hd.opn.at zaq).2.1, by have h1 := H1.out.hd.osays; have h2 := HG.out.2.1.1; rw [← h1, List.length_map] at h2; exact h2⟩;go_wp2_with fail
 refine (zfy 56 #[.pointer (some ⟨w.heap.size + 1, 0, U⟩)] zge (fun x => x.1 == md) a3 X2 c3 n3 A hn3.out.1 (by have := hn3.out.2; omega) (H1.out.hd.opn.at zaq).1 (fun x _ w' hb => zgf (w.heap.size + 1) 7 md mh x.1 (G ma mn mc) _ _ _ w' (H1.out.mb.below hb H1.out.mb.lt))).mono ?_;rintro e w3 ⟨jj, rfl, hidx, hb3⟩;have HX := zA hidx;have H3 : Q (HrS w 7 md mh (G ma mn mc) bt nx N7 (w3.alloc (T #[E J jj] 3)) a2 nl c2 Y2 L a3 n3 c3 X2 O ∧ Blk (w3.alloc (T #[E J jj] 3)) w3.heap.size #[E J jj] 3) := ⟨(H1.out.below hb3).below (zh w3 _), Blk.new _ _ _⟩;clear hidx hb3 H1 x3 l0;go_upto_region 4 with fail
 generalize w3.alloc (T #[E J jj] 3) = D at *;have i0 := H3.out.2.cell 0;simp only [kab, kac] at i0
 have li := H3.out.2.lt
 obtain ⟨i, hi, hri, hdi, hlow⟩ : ∃ (i : Nat) (hi : i < X2.length), jj = i ∧ X2[i].1 = md ∧ ∀ j (hj : j < X2.length), j < i → X2[j].1 ≠ md := by
  rcases HX.out with ⟨_, h⟩ | ⟨i, hi, h1, h2, h3⟩
  ·exfalso
   obtain ⟨o, ho, hod⟩ := hex;rw [← H3.out.1.hd.osays] at ho;obtain ⟨x, hx, rfl⟩ := List.mem_map.1 ho;have h2 := h x hx;simp [zw] at h2 hod
   exact h2 hod
  ·exact ⟨i, hi, h1, by simpa using h2, fun j hj hji => by simpa using h3 j hj hji⟩
 subst hri;have hiO : i < O.length := by have h1 := H3.out.1.hd.osays; rw [← h1, List.length_map]; exact hi
 have hOi : O[i] = zw X2[i] := by
  have : O = X2.map zw := H3.out.1.hd.osays.symm;subst this;rw [List.getElem_map]
 have HH : Q (zb2 (7, md, mh, ml) O = some (O.take i ++ ((zv (7, md, mh, ml) (zw X2[i])).1.toList ++ O.drop (i + 1)), (zv (7, md, mh, ml) (zw X2[i])).2.1, (zv (7, md, mh, ml) (zw X2[i])).2.2) ∧ O = O.take i ++ (zw X2[i] :: O.drop (i + 1)) ∧ O.eraseIdx i = O.take i ++ O.drop (i + 1)) := by
  refine ⟨?_, by rw [← hOi, ← List.drop_eq_getElem_cons hiO, List.take_append_drop], List.eraseIdx_eq_take_drop_succ _ _⟩;rw [← hOi]
  exact zgt hiO (by rw [hOi]; exact hdi) (fun j hj hji => by
   have h1 := hlow j (by have h1 := H3.out.1.hd.osays; rw [← h1, List.length_map] at hj; exact hj) hji
   have h2 : O[j] = zw (X2[j]'(by have h1 := H3.out.1.hd.osays; rw [← h1, List.length_map] at hj; exact hj)) := by
    have : O = X2.map zw := H3.out.1.hd.osays.symm;subst this;rw [List.getElem_map]
   rw [h2]
   exact h1)
 have hro := hr O[i] (kad hiO);rw [hOi] at hro
 obtain ⟨g, ha3⟩ : ∃ g, a3 = some ⟨g, 0, U⟩ := by
  rcases H3.out.1.hd.opn.2 with ⟨hv, h0⟩ | ⟨g, cap', cur, hv, _⟩
  ·exfalso; omega
  ·cases hv; exact ⟨g, rfl⟩
 subst ha3;obtain ⟨hgl, d0, d1, d2, d3⟩ := zew (H3.out.1.hd.opn.at zaq).1 hi;simp only [Nat.zero_add] at d0 d1 d2 d3
 have hop := H3.out.1.hd.op _ (kad hi);have hin : i < n3 := by rw [hn3.out.1]; exact hi
 obtain ⟨x, hx⟩ : ∃ x, Q (X2[i] = x) := ⟨X2[i], by show _ = _; rfl⟩;rw [hx.out] at d0 d1 d2 d3 hop hro hdi;rw [hx.out] at HH;clear hex hlow hOi;obtain ⟨dd, ⟨⟨pa, pc⟩, l⟩, dec, ⟨ha, hc⟩, hd⟩ := x;simp only [zw] at d0 d1 d2 d3 hop hro hdi HH
 subst hdi;obtain ⟨ln, hn, HLL⟩ : ∃ ln hn, Q (l.length = ln ∧ hd.length = hn) := ⟨_, _, rfl, rfl⟩;rw [HLL.out.1] at d1;rw [HLL.out.2] at d3;have gi : decide ((i : Int) < 0) = false := decide_eq_false (by omega);have x3 := H3.out.1.ob.cell 3;simp only [kab, kac, kae] at x3
 have m0 := H3.out.1.mb.cell 0;simp only [kab, kac] at m0
 have lm := H3.out.1.mb.lt;have lx := H3.out.1.ob.lt
 cases dec with
 | true =>
  have HP : Q (zc ⟨L, bt, nx, O⟩ (7, dd, mh, ml) = (⟨L, bt, nx, O⟩, [(4, dd, mh, [])])) := by
   show _ = _
   unfold zc
   simp only
   rw [HH.out.1, show zv (7, dd, mh, ml) (dd, l, true, hd) = (some (dd, l, true, hd), [], [(4, dd, mh, [])]) from zmd rfl rfl];have h := HH.out.2.1;simp only [Option.toList_some, List.singleton_append, List.append_nil]
   rw [← h]
  go_upto_region 25 with fail
  clear d0 d1 d2 d3 x3 m0 lm lx i0 li gi;have hX1 : Z D.heap.size D D.drew := (Below.refl _ _).drew;have HK : Q (∀ w', Z D.heap.size D w' → (w'.cell? ⟨N7, 0, U⟩ = some (G a2 nl c2) ∧ w'.cell? ⟨N7, 1, U⟩ = some (E J bt) ∧ w'.cell? ⟨N7, 2, U⟩ = some (E J nx) ∧ w'.cell? ⟨N7, 3, U⟩ = some (G (some ⟨g, 0, U⟩) n3 c3))) := fun w' hb => ⟨(H3.out.1.ob.below hb H3.out.1.ob.lt).cell 0, (H3.out.1.ob.below hb H3.out.1.ob.lt).cell 1, (H3.out.1.ob.below hb H3.out.1.ob.lt).cell 2, (H3.out.1.ob.below hb H3.out.1.ob.lt).cell 3⟩
  refine zb9 (S := fun w' => (w'.cell? ⟨N7, 0, U⟩ = some (G a2 nl c2) ∧ w'.cell? ⟨N7, 1, U⟩ = some (E J bt) ∧ w'.cell? ⟨N7, 2, U⟩ = some (E J nx) ∧ w'.cell? ⟨N7, 3, U⟩ = some (G (some ⟨g, 0, U⟩) n3 c3))) 3 (by kernel_rfl) (HK.out _ hX1) (fun hHeld => ?_);refine tks 2 [(0, 114), (1, 115)] (b := ?_) rfl (by decide +kernel) (fun _ _ _ _ _ h => h) ?_ hHeld ?_;rotate_left 1
  ·iterate 2 (refine zo.cons (v := ?_) rfl rfl (by rfl) ?_ ?_; rotate_left 1; (intro w h; (try dsimp only at h); go_simp; try with_reducible rfl))
   exact zo.nil
  refine rdy 2 (by kernel_rfl) rfl (fun K hK => ?_);go_simp;refine (zmk (w.heap.size + 1) 7 dd mh 4 (G ma mn mc) D.drew (H3.out.1.mb.below hX1 H3.out.1.mb.lt)).mono ?_;rintro e w4 ⟨v4, rfl, hM4, hb4⟩;have hX4 := hX1.trans (hb4.mono hX1.size);have hM4' : zm w4 w.heap.size v4 [(4, dd, mh, [])] := hM4.mono (by have h1 := H3.out.1.bel.size; have h2 := hX1.size; omega);clear hM4 hb4;go_wp2_with fail
  refine kgo hK (by decide +kernel) ((HK.out _ hX4)) (fun hHeld => ?_);clear hK K;have z := H3.out.1.rb.below hX4 H3.out.1.rb.lt;obtain ⟨t0, t1, t2, t3⟩ := z.cells4;obtain ⟨y0, y1, y2, y3⟩ := z.free4;have lr := z.lt;refine rdy 3 (by kernel_rfl) rfl (fun K hK => ?_);go_simp;refine za5 hK (by decide +kernel) ?_;clear hK K hHeld;refine rdy 4 (by kernel_rfl) rfl (fun K hK => ?_);go_simp;refine za5 hK (by decide +kernel) ?_;clear hK K;refine zbd (by kernel_rfl) ?_ _;obtain ⟨p1, p2, p3⟩ := (H3.out.1.below hX4).ret;obtain ⟨e0, e1, e2, e3⟩ := p3.cells4;have HF : Q ((∀ R : Nat → Prop, (∀ b, R b → b < w.heap.size) → zy R (r (r (r (r w4 ⟨(w.heap.size + 2), 0, U⟩ (G a2 nl c2)) ⟨(w.heap.size + 2), 1, U⟩ (E J bt)) ⟨(w.heap.size + 2), 2, U⟩ (E J nx)) ⟨(w.heap.size + 2), 3, U⟩ (G (some ⟨g, 0, U⟩) n3 c3)) (.agg #[G a2 nl c2, E J bt, E J nx, G (some ⟨g, 0, U⟩) n3 c3]) (zc ⟨L, bt, nx, O⟩ (7, dd, mh, ml)).1) ∧ zm (r (r (r (r w4 ⟨(w.heap.size + 2), 0, U⟩ (G a2 nl c2)) ⟨(w.heap.size + 2), 1, U⟩ (E J bt)) ⟨(w.heap.size + 2), 2, U⟩ (E J nx)) ⟨(w.heap.size + 2), 3, U⟩ (G (some ⟨g, 0, U⟩) n3 c3)) w.heap.size v4 (zc ⟨L, bt, nx, O⟩ (7, dd, mh, ml)).2 ∧ Z w.heap.size w (r (r (r (r w4 ⟨(w.heap.size + 2), 0, U⟩ (G a2 nl c2)) ⟨(w.heap.size + 2), 1, U⟩ (E J bt)) ⟨(w.heap.size + 2), 2, U⟩ (E J nx)) ⟨(w.heap.size + 2), 3, U⟩ (G (some ⟨g, 0, U⟩) n3 c3))) := by rw [HP.out]; exact ⟨p1, hM4'.set4 z _ _ _ _, p2⟩
  clear p1 p2 p3 hM4' z t0 t1 t2 t3 y0 y1 y2 y3 lr;generalize (r (r (r (r w4 ⟨(w.heap.size + 2), 0, U⟩ (G a2 nl c2)) ⟨(w.heap.size + 2), 1, U⟩ (E J bt)) ⟨(w.heap.size + 2), 2, U⟩ (E J nx)) ⟨(w.heap.size + 2), 3, U⟩ (G (some ⟨g, 0, U⟩) n3 c3)) = Z9 at *;go_wp2_with fail
  refine bodyPost_ret (v := .tuple #[.agg #[G a2 nl c2, E J bt, E J nx, G (some ⟨g, 0, U⟩) n3 c3], v4]) ?_ rfl ⟨_, _, rfl, HF.out.1, HF.out.2.1, HF.out.2.2⟩;simp [results, Tryz.results24, go_sem, e0, e1, e2, e3]
 | false =>
  have HP : Q (zc ⟨L, bt, nx, O⟩ (7, dd, mh, ml) = (⟨L, bt, nx, O⟩, [])) := by
   show _ = _
   unfold zc
   simp only
   rw [HH.out.1, show zv (7, dd, mh, ml) (dd, l, false, hd) = (some (dd, l, false, hd), [], []) from zdk (fun h => absurd (show (7 : Int) = 2 from h.1) (by decide)) (fun h => absurd (show (7 : Int) = 3 from h.1) (by decide)) (fun h => by cases h.2.1) (fun h => by cases h.2)];have h := HH.out.2.1;simp only [Option.toList_some, List.singleton_append, List.append_nil]
   rw [← h]
  go_upto_region 26 with fail
  clear d0 d1 d2 d3 x3 m0 lm lx i0 li gi;obtain ⟨r0, r1, r2, r3⟩ := (H3.out.1).ob.cells4;obtain ⟨t0, t1, t2, t3⟩ := (H3.out.1).rb.cells4;obtain ⟨y0, y1, y2, y3⟩ := (H3.out.1).rb.free4;have lo := (H3.out.1).ob.lt;have lr := (H3.out.1).rb.lt;obtain ⟨p1, p2, p3⟩ := (H3.out.1).ret;obtain ⟨e0, e1, e2, e3⟩ := p3.cells4;have HF : Q ((∀ R : Nat → Prop, (∀ b, R b → b < w.heap.size) → zy R ((((D.setCell ⟨(w.heap.size + 2), 0, U⟩ (G a2 nl c2)).setCell ⟨(w.heap.size + 2), 1, U⟩ (E J bt)).setCell ⟨(w.heap.size + 2), 2, U⟩ (E J nx)).setCell ⟨(w.heap.size + 2), 3, U⟩ (G (some ⟨g, 0, U⟩) n3 c3)) (.agg #[G a2 nl c2, E J bt, E J nx, G (some ⟨g, 0, U⟩) n3 c3]) (zc ⟨L, bt, nx, O⟩ (7, dd, mh, ml)).1) ∧ zm ((((D.setCell ⟨(w.heap.size + 2), 0, U⟩ (G a2 nl c2)).setCell ⟨(w.heap.size + 2), 1, U⟩ (E J bt)).setCell ⟨(w.heap.size + 2), 2, U⟩ (E J nx)).setCell ⟨(w.heap.size + 2), 3, U⟩ (G (some ⟨g, 0, U⟩) n3 c3)) w.heap.size (G U 0 0) (zc ⟨L, bt, nx, O⟩ (7, dd, mh, ml)).2 ∧ Z w.heap.size w ((((D.setCell ⟨(w.heap.size + 2), 0, U⟩ (G a2 nl c2)).setCell ⟨(w.heap.size + 2), 1, U⟩ (E J bt)).setCell ⟨(w.heap.size + 2), 2, U⟩ (E J nx)).setCell ⟨(w.heap.size + 2), 3, U⟩ (G (some ⟨g, 0, U⟩) n3 c3))) := by rw [HP.out]; exact ⟨p1, zm.nil _ _, p2⟩
  clear p1 p2 p3;go_wp2_with fail
  clear r0 r1 r2 r3 t0 t1 t2 t3 y0 y1 y2 y3 lo lr;generalize ((((D.setCell ⟨(w.heap.size + 2), 0, U⟩ (G a2 nl c2)).setCell ⟨(w.heap.size + 2), 1, U⟩ (E J bt)).setCell ⟨(w.heap.size + 2), 2, U⟩ (E J nx)).setCell ⟨(w.heap.size + 2), 3, U⟩ (G (some ⟨g, 0, U⟩) n3 c3)) = Z9 at *;refine bodyPost_ret (v := .tuple #[.agg #[G a2 nl c2, E J bt, E J nx, G (some ⟨g, 0, U⟩) n3 c3], (G U 0 0)]) ?_ rfl ⟨_, _, rfl, HF.out.1, HF.out.2.1, HF.out.2.2⟩;simp [results, Tryz.results24, go_sem, e0, e1, e2, e3]
theorem zos (la oa : Option Addr) (nl lc no oc : Nat) (bt nx : Int) (L : List R3) (O : List O4) (Y : List XL) (X : List XO) (mk md mh : Int) (ma : Option Addr) (mn mc : Nat) (ml : List P3) (w : World) (H : zbh (fun _ => False) w la nl Y oa no X L O) (hf : zcf O) (hok : OkL L) (hl : L.length ≤ 400000) (hr : ∀ o ∈ O, zcj o.2.1) (hw : ∀ o ∈ O, o.2.2.2.Nodup ∧ (∀ k ∈ o.2.2.2, k ∈ zr o.2.1) ∧ o.2.2.2.length ≤ 1000) :
  Calls Tryz.prog 24 #[.agg #[G la nl lc, E J bt, E J nx, G oa no oc], .agg #[E J mk, E J md, E J mh, G ma mn mc]] w fun e w' => ∃ v' sv, e = .returned (.tuple #[v', sv]) ∧ (∀ R : Nat → Prop, (∀ b, R b → b < w.heap.size) → zy R w' v' (zc ⟨L, bt, nx, O⟩ (mk, md, mh, ml)).1) ∧ zm w' w.heap.size sv (zc ⟨L, bt, nx, O⟩ (mk, md, mh, ml)).2 ∧ Z w.heap.size w w' := by
 by_cases hex : ∃ o ∈ O, o.1 = md
 ·by_cases k2 : mk = 2
  ·subst k2; exact zqn la oa nl lc no oc bt nx L O Y X md mh ma mn mc ml w H hf hok hl hex hr hw
  by_cases k3 : mk = 3
  ·subst k3; exact zoz la oa nl lc no oc bt nx L O Y X md mh ma mn mc ml w H hf hok hl hex hr
  by_cases k6 : mk = 6
  ·subst k6; exact zpl la oa nl lc no oc bt nx L O Y X md mh ma mn mc ml w H hf hok hl hex hr hw
  by_cases k7 : mk = 7
  ·subst k7; exact zpo la oa nl lc no oc bt nx L O Y X md mh ma mn mc ml w H hf hok hl hex hr
  exact zoi la oa nl lc no oc bt nx L O Y X mk md mh ma mn mc ml w H hf hok hl hex hr k2 k3 k6 k7
 ·exact zoq la oa nl lc no oc bt nx L O Y X mk md mh ma mn mc ml w H hf hok hl (fun o ho e => hex ⟨o, ho, e⟩)
section
variable {w0 w w' : World} {la : Option Addr} {nl lc : Nat} {bt nx : Int} {oa : Option Addr} {no oc : Nat} {B : Nat} {a2 : Option Addr} {c2 : Nat} {Y2 : List XL} {L : List R3} {a3 : Option Addr} {n3 c3 : Nat} {X2 : List XO} {O : List O4}
theorem zbs.grownM (H : zbs w0 la nl lc bt nx oa no oc B a2 c2 Y2 L w a3 n3 c3 X2 O) {base : Nat} {v : Value} {jz : List XM} (hg : w.grownBy w' v.ownBlock) (hZ : za 25 4 zb3 w base v jz) (hbase : w0.heap.size ≤ base) : zbs w0 la nl lc bt nx oa no oc B a2 c2 Y2 L w' a3 n3 c3 X2 O := by
 have hbel := H.bel.grown hg H.bel.size (fun k hk => by have := hZ.base _ hk; omega);exact ⟨H.hb.keptT hg (hZ.grownT (by decide)), H.rb.keptT hg (hZ.grownT (by decide)), H.ob.keptT hg (hZ.grownT (by decide)), ⟨⟨H.hd.log.1.keptT hg (hZ.grownT (by decide)), fun y hy => (H.hd.log.2 y hy).calm (zg.grown hg (hZ.grownT (by decide)))⟩, H.hd.says, H.hd.opn.keptT hg (hZ.grownT (by decide)), H.hd.osays, fun x hx => ⟨(H.hd.op x hx).1.calm (zg.grown hg (hZ.grownT (by decide))), (H.hd.op x hx).2.calm (zg.grown hg (hZ.grownT (by decide)))⟩⟩, hbel, H.ne⟩
theorem zbs.del (H : zbs w0 la nl lc bt nx oa no oc B a2 c2 Y2 L w a3 n3 c3 X2 O) (hg : w.grownBy w' (Value.ownBlock (G a3 n3 c3))) {a4 : Option Addr} {n4 c4 : Nat} {X' : List XO} {O' : List O4} (h4 : za 58 4 zaj w' (w0.heap.size + 2) (G a4 n4 c4) X') (hs : ∀ x ∈ X', x ∈ X2) (hO : X'.map zw = O') :
  zbs w0 la nl lc bt nx oa no oc B a2 c2 Y2 L (r w' ⟨B, 3, U⟩ (G a4 n4 c4)) a4 n4 c4 X' O' := by
 have hne : ∀ b, b < w0.heap.size + 2 → Value.ownBlock (G a3 n3 c3) ≠ some b := fun b hb e => by have := H.hd.opn.base _ e; omega
 have o4 := H.ob.keptT hg (H.hd.opn.grownT (by decide));have hB := H.ne;have hcP : zg 90 w w' := zg.grown hg (H.hd.opn.grownT (by decide));have hcI : zg 3 w w' := zg.grown hg (H.hd.opn.grownT (by decide));have hd' : zbg w' (w0.heap.size + 2) a2 nl c2 Y2 a4 n4 c4 X' L O' := ⟨⟨H.hd.log.1.keptT hg (H.hd.opn.grownT (by decide)), fun y hy => (H.hd.log.2 y hy).calm hcP⟩, H.hd.says, h4, hO, fun x hx => ⟨(H.hd.op x (hs x hx)).1.calm hcP, (H.hd.op x (hs x hx)).2.calm hcI⟩⟩;exact ⟨(H.hb.keptNe hg (hne _ (by omega))).setOther (a := ⟨B, 3, U⟩) (by simp; omega) _, (H.rb.keptNe hg (hne _ (by omega))).setOther (a := ⟨B, 3, U⟩) (by simp; omega) _, o4.set 3 _, hd'.set o4 (by decide) (by decide) (by decide) (by decide) _, (H.bel.grown hg H.bel.size (fun k hk => by have := H.hd.opn.base _ hk; omega)).setCell (by simp; omega) _, hB⟩
end
theorem entersQ : zfb 49 := fun _ _ => rfl
theorem quit1_any (v0 v1 v3 : Value) (dec : Bool) (w : World) :
  Calls Tryz.prog 49 (#[.agg #[v0, v1, .bool dec, v3]] ++ #[]) w fun e w' => e = .returned (.bool (!dec)) ∧ Z w.heap.size w w' := by
 have hb0 := zh w (T #[v0, v1, .bool dec, v3] 58);show Calls Tryz.prog 49 #[.agg #[v0, v1, .bool dec, v3]] w _
 go_enter Tryz.func49, Tryz.ntmps49
 go_wp2;go_ret;exact ⟨rfl, hb0⟩
theorem zp0 (la oa : Option Addr) (nl lc no oc : Nat) (bt nx : Int) (L : List R3) (O : List O4) (Y : List XL) (X : List XO) (w : World) (H : zbh (fun _ => False) w la nl Y oa no X L O) (hf : zcf O) (hok : OkL L) (hl : L.length ≤ 400000) (hr : ∀ o ∈ O, zcj o.2.1) :
  Calls Tryz.prog 15 #[.agg #[G la nl lc, E J bt, E J nx, G oa no oc]] w fun e w' => ∃ v' sv, e = .returned (.tuple #[v', sv]) ∧ (∀ R : Nat → Prop, (∀ b, R b → b < w.heap.size) → zy R w' v' (zk ⟨L, bt, nx, O⟩).1) ∧ zm w' w.heap.size sv (zk ⟨L, bt, nx, O⟩).2 ∧ Z w.heap.size w w' := by
 have hb0 := zaw w (T #[G la nl lc, E J bt, E J nx, G oa no oc] 29) (T #[G U 0 0, E J 0, E J 0, G U 0 0] 29);have h0 : Blk ((w.alloc (T #[G la nl lc, E J bt, E J nx, G oa no oc] 29)).alloc (T #[G U 0 0, E J 0, E J 0, G U 0 0] 29)) w.heap.size #[G la nl lc, E J bt, E J nx, G oa no oc] 29 := (Blk.new _ _ _).alloc _;have hz0 : Blk ((w.alloc (T #[G la nl lc, E J bt, E J nx, G oa no oc] 29)).alloc (T #[G U 0 0, E J 0, E J 0, G U 0 0] 29)) (w.heap.size + 1) #[G U 0 0, E J 0, E J 0, G U 0 0] 29 := zao _ _ _;have hs0 : ((w.alloc (T #[G la nl lc, E J bt, E J nx, G oa no oc] 29)).alloc (T #[G U 0 0, E J 0, E J 0, G U 0 0] 29)).heap.size = w.heap.size + 2 := by simp
 have hXO : X.length = O.length := by rw [← H.osays, List.length_map]
 have hnL : nl = L.length := by rw [← H.says, List.length_map]; exact H.ln
 have HG := zE (H.below hb0) hf hok hl hnL;have HW := zD hXO hf H.on H;have HRR := zA hr;have hno : no ≤ 100000 := by have h1 := hf.1; have h2 := H.on; omega
 clear H hf hok hl hXO hnL hr;go_enter Tryz.func15, Tryz.ntmps15
 go_upto_region 1 with fail
 generalize ((w.alloc (T #[G la nl lc, E J bt, E J nx, G oa no oc] 29)).alloc (T #[G U 0 0, E J 0, E J 0, G U 0 0] 29)) = V at *;obtain ⟨x0, x1, x2, x3⟩ := h0.cells4;have l0 := h0.lt;go_wp2_with fail
 refine (zil la oa nl lc no oc bt nx Y X L O V HG.out.1 HG.out.2.1 HG.out.2.2.1 (by have := HG.out.2.2.2.1; omega)).mono ?_;rintro e w2 ⟨_, rfl, ⟨a2, n2, c2, Y2, a3, n3, c3, X2, rfl, hO2⟩, hbw2⟩;have hn2 : n2 = nl := by rw [(hO2.log.1.at za7).2.1, HG.out.2.2.2.2, ← hO2.says, List.length_map]
 subst hn2
 have H1 : Q (zbs w la n2 lc bt nx oa no oc w2.heap.size a2 c2 Y2 L (w2.alloc (T #[G a2 n2 c2, E J bt, E J nx, G a3 n3 c3] 29)) a3 n3 c3 X2 O) := by
  have hbb := zh w2 (T #[G a2 n2 c2, E J bt, E J nx, G a3 n3 c3] 29);have hsz := hbw2.size;exact ⟨(h0.below hbw2 h0.lt).below hbb (by omega), (hz0.below hbw2 hz0.lt).below hbb (by omega), Blk.new _ _ _, (hO2.mono (by omega : w.heap.size + 2 ≤ V.heap.size)).below hbb, (hb0.trans (hbw2.mono hb0.size)).trans (hbb.mono (by omega)), by omega⟩
 clear hO2 hbw2 hb0 hz0 h0 hs0 x0 x1 x2 x3 l0;go_upto_region 2 with fail
 obtain ⟨N7, hN7⟩ : ∃ N7, N7 = w2.heap.size := ⟨_, rfl⟩;rw [← hN7] at H1;generalize w2.alloc (T #[G a2 n2 c2, E J bt, E J nx, G a3 n3 c3] 29) = A at *;rw [← hN7];clear hN7;obtain ⟨nl, hnl'⟩ : ∃ nl, nl = n2 := ⟨_, rfl⟩;subst hnl';have x3 := H1.out.hb.cell 3;simp only [kab, kac, kae] at x3
 have l0 := H1.out.hb.lt;go_wp2;clear x3 l0;go_loopw [5, 13] (fun v i w' => ∃ k : Nat, k ≤ no ∧ i = E J k ∧ Q (zbs w la nl lc bt nx oa no oc N7 a2 c2 Y2 L w' a3 n3 c3 X2 O ∧ zm w' w.heap.size v (((O.take k).filter fun o => !o.2.2.1).flatMap za3))) (fun _ i _ => no - (intOf i).toNat)
 case atStart => exact ⟨0, Nat.zero_le _, rfl, H1.out, by simp only [List.take_zero, List.filter_nil, List.flatMap_nil]; exact zm.nil _ _⟩
 case round =>
  obtain ⟨k, hk, rfl, hH⟩ := hrel;obtain ⟨hOS, hM⟩ := hH.out;by_cases hlt : k < no
  ·have hkX : k < X.length := by have := HW.out.2.2.1; omega
   have hkO : k < O.length := by have := HW.out.1; omega
   have hOk : O[k] = zw X[k] := by
    have : O = X.map zw := HW.out.2.2.2.osays.symm;subst this;rw [List.getElem_map]
   have hfk := HW.out.2.1.2 O[k] (kad hkO);have hrk := HRR.out O[k] (kad hkO);have hop := HW.out.2.2.2.oparts _ (kad hkX)
   have HE : Q (((O.take (k + 1)).filter fun o => !o.2.2.1).flatMap za3 = ((O.take k).filter fun o => !o.2.2.1).flatMap za3 ++ (if O[k].2.2.1 = true then [] else za3 O[k])) := by
    show _ = _
    rw [zav hkO, List.filter_append, List.flatMap_append];congr 1
    cases h : O[k].2.2.1 <;> simp [h]
   have hml : (((O.take k).filter fun o => !o.2.2.1).flatMap za3).length ≤ 300000 := by
    have h1 := zf8 zgs ((O.take k).filter fun o => !o.2.2.1);have h2 : ((O.take k).filter fun o => !o.2.2.1).length ≤ (O.take k).length := List.length_filter_le _ _;rw [List.length_take] at h2;omega
   generalize ((O.take k).filter fun o => !o.2.2.1).flatMap za3 = ms at *;obtain ⟨jz, hZl, hO, hZ, hT⟩ := hM.len;obtain ⟨av, nv, cv, rfl⟩ := hO.slice zbu;obtain ⟨g, o, rfl, hg, d0, d1, d2, d3, hq⟩ := ((HW.out.2.2.2.below hOS.bel).opns.lies).get hkX;rw [hOk] at hfk hrk HE;generalize X[k] = x at *;obtain ⟨dd, ⟨⟨pa, pc⟩, l⟩, dec, ⟨ha, hc⟩, hd⟩ := x;simp only [zw] at d0 d1 d2 d3 hfk hop hrk HE
   obtain ⟨ln, hn, HLL⟩ : ∃ ln hn, Q (l.length = ln ∧ hd.length = hn) := ⟨_, _, rfl, rfl⟩;rw [HLL.out.1] at d1;rw [HLL.out.2] at d3;have HQ : Q (zae w pa l ∧ zcj l) := ⟨hop.1.1, hrk⟩;have H1 : Q (zbs w la nl lc bt nx (some ⟨g, o, U⟩) no oc N7 a2 c2 Y2 L (wr.alloc (T #[E J dd, G pa ln pc, .bool dec, G ha hn hc] 58)) a3 n3 c3 X2 O ∧ Blk (wr.alloc (T #[E J dd, G pa ln pc, .bool dec, G ha hn hc] 58)) wr.heap.size #[E J dd, G pa ln pc, .bool dec, G ha hn hc] 58 ∧ za 25 4 zb3 (wr.alloc (T #[E J dd, G pa ln pc, .bool dec, G ha hn hc] 58)) w.heap.size (G av nv cv) jz ∧ (∀ x ∈ jz, zai w.heap.size (wr.alloc (T #[E J dd, G pa ln pc, .bool dec, G ha hn hc] 58)) x.2.2.2.1.1 x.2.2.2.2) ∧ jz.map zce = ms) := ⟨hOS.below (zh wr _), Blk.new _ _ _, hO.below (zh wr _) (kaa _), fun x hx => (hT x hx).calm (zg.alloc _ _ _), hZ⟩;have hZ3 : jz.length ≤ 300000 := by omega
   go_upto_region 6 with fail
   clear d0 d1 d2 d3 hg hH hOS hM hO hZ hT hq hop hfk hOk hrk hkX hkO hml hZl;generalize wr.alloc (T #[E J dd, G pa ln pc, .bool dec, G ha hn hc] 58) = A at *;obtain ⟨b0, b1, b2, b3⟩ := H1.out.2.1.cells4;have lb := H1.out.2.1.lt
   cases dec with
   | true =>
    have HF : Q (zbs w la nl lc bt nx (some ⟨g, o, U⟩) no oc N7 a2 c2 Y2 L A a3 n3 c3 X2 O ∧ zm A w.heap.size (G av nv cv) ms) := ⟨H1.out.1, jz, H1.out.2.2.1, H1.out.2.2.2.2, H1.out.2.2.2.1⟩;go_wp2;go_roundw
    case rel => exact ⟨k + 1, by omega, by go_num, by rw [HE.out]; exact ⟨HF.out.1, by simpa using HF.out.2⟩⟩
    case measure => simp [intOf]; omega
   | false =>
    go_wp2_with fail
    clear b0 b1 b2 b3 lb;refine (zkr dd pa ln pc l false ha hn hc hd A HLL.out.1.symm HQ.out.2 (HQ.out.1.below H1.out.1.bel)).mono ?_;rintro e w2 ⟨v2, rfl, hM2, hb2⟩;have hml2 := zgs (dd, l, false, hd);obtain ⟨zX, hUl, hU, hUs, hUT⟩ := hM2.len;obtain ⟨a9, n9, c9, rfl⟩ := hU.slice zbu;have hUr := hU.at zbu;have HU := zE hUs hUT hUr.2.1 hUr.1 hb2;have hU3 : zX.length ≤ 3 := by omega
    have hs2 := hb2.size;have hwA : w.heap.size + 2 ≤ A.heap.size := by have := H1.out.1.rb.lt; omega
    clear hM2 hU hUs hUT hUr hb2 hUl hml2;go_wp2_with (at_builtin; refine zbi zbu oneM Tryz.underlying41 zfl rfl (by decide) _ rfl _ _ rfl w.heap.size _ jz rfl (H1.out.2.2.1.below HU.out.2.2.2.2 (kaa _)) a9 n9 c9 zX rfl HU.out.2.2.1 HU.out.2.2.2.1 (by unfold maxLen; omega) (by omega) (by omega) ?_; intro a8 n8 c8 w8 hown8 hn8 hgrow8 hat8; clear hn8 hat8)
    have hoA := H1.out.2.2.1.below HU.out.2.2.2.2 (kaa _);have HF := zB ((H1.out.1.below HU.out.2.2.2.2).grownM hgrow8 hoA (kaa _)) (zm.app H1.out.2.2.2.2 H1.out.2.2.2.1 (zg.below HU.out.2.2.2.2 (kaa _)) hoA hgrow8 hown8 HU.out.1 (fun y hy => (HU.out.2.1 y hy).mono (by omega)));clear hoA hown8 hgrow8;go_wp2;go_roundw
    case rel => exact ⟨k + 1, by omega, by go_num, by rw [HE.out]; exact ⟨HF.out.1, by simpa using HF.out.2⟩⟩
    case measure => simp [intOf]; omega
  ·have hT : O.take k = O := List.take_of_length_le (by have h1 := HW.out.1; have h2 := HW.out.2.2.1; omega)
   rw [hT] at hM;have H1 := zB hOS hM;clear hH hOS hM hT;have r3 := H1.out.1.ob.cell 3;simp only [kab, kac, kae] at r3
   have lo := H1.out.1.ob.lt;go_wp2_with fail
   refine (zpi 49 #[] entersQ (fun x => !x.2.2.1) a3 X2 c3 n3 (w.heap.size + 2) wr (by have h1 := H1.out.1.hd.osays; have h2 := HW.out.2.1.1; rw [← h1, List.length_map] at h2; omega) H1.out.1.hd.opn (fun x _ w' _ => quit1_any _ _ _ _ w')).mono ?_;rintro e w4 ⟨n4, rfl, ho4, hg4⟩;have hX4 : (X2.filter fun x => !(!x.2.2.1)) = X2.filter fun x => x.2.2.1 := by congr 1; funext x; simp
   rw [hX4] at ho4;have o4 := H1.out.1.ob.keptT hg4 (H1.out.1.hd.opn.grownT (by decide))
   have H4 : Q (zbs w la nl lc bt nx oa no oc N7 a2 c2 Y2 L (r w4 ⟨N7, 3, U⟩ (G a3 n4 c3)) a3 n4 c3 (X2.filter fun x => x.2.2.1) (O.filter fun o => o.2.2.1) ∧ zm (r w4 ⟨N7, 3, U⟩ (G a3 n4 c3)) w.heap.size u5 (((O).filter fun o => !o.2.2.1).flatMap za3)) := by
    refine ⟨H1.out.1.del hg4 ho4 (fun x hx => (List.mem_filter.1 hx).1) ?_, ?_⟩
    ·rw [← H1.out.1.hd.osays, List.filter_map]; rfl
    ·obtain ⟨zX, z1, z2, z3⟩ := H1.out.2
     exact ⟨zX, (z1.keptT hg4 (H1.out.1.hd.opn.grownT (by decide))).setOther (a := ⟨N7, 3, U⟩) o4 (by decide) _, z2, fun x hx => ((z3 x hx).calm (zg.grown hg4 (H1.out.1.hd.opn.grownT (by decide)))).calm (zg.setCell (a := ⟨N7, 3, U⟩) o4 (by decide) _)⟩
   have p3 := o4.cell 3;have q3 := o4.free 3;have l4 := o4.lt;simp only [kab, kac, kae] at p3
   clear ho4 hg4 hX4 r3 lo;go_upto_region 10 with fail
   clear p3 q3 l4 o4 H1;generalize (r w4 ⟨N7, 3, U⟩ (G a3 n4 c3)) = S4 at *;obtain ⟨r0, r1, r2, r3⟩ := H4.out.1.ob.cells4;obtain ⟨t0, t1, t2, t3⟩ := H4.out.1.rb.cells4;obtain ⟨y0, y1, y2, y3⟩ := H4.out.1.rb.free4;have lo := H4.out.1.ob.lt;have lr := H4.out.1.rb.lt;have z := H4.out.1.rb;have hk4 := zb0 z (G a2 nl c2) (E J bt) (E J nx) (G a3 n4 c3);obtain ⟨e0, e1, e2, e3⟩ := hk4.1.cells4;have hO : zbg ((((S4.setCell ⟨(w.heap.size + 1), 0, U⟩ (G a2 nl c2)).setCell ⟨(w.heap.size + 1), 1, U⟩ (E J bt)).setCell ⟨(w.heap.size + 1), 2, U⟩ (E J nx)).setCell ⟨(w.heap.size + 1), 3, U⟩ (G a3 n4 c3)) w.heap.size a2 nl c2 Y2 a3 n4 c3 (X2.filter fun x => x.2.2.1) L (O.filter fun o => o.2.2.1) := (((((H4.out.1.hd.mono (by omega : w.heap.size ≤ w.heap.size + 2)).set z (by decide) (by decide) (by decide) (by decide) _).set (z.set 0 _) (by decide) (by decide) (by decide) (by decide) _).set ((z.set 0 _).set 1 _) (by decide) (by decide) (by decide) (by decide) _).set (((z.set 0 _).set 1 _).set 2 _) (by decide) (by decide) (by decide) (by decide) _);have HF : Q ((∀ R : Nat → Prop, (∀ b, R b → b < w.heap.size) → zy R ((((S4.setCell ⟨(w.heap.size + 1), 0, U⟩ (G a2 nl c2)).setCell ⟨(w.heap.size + 1), 1, U⟩ (E J bt)).setCell ⟨(w.heap.size + 1), 2, U⟩ (E J nx)).setCell ⟨(w.heap.size + 1), 3, U⟩ (G a3 n4 c3)) (.agg #[G a2 nl c2, E J bt, E J nx, G a3 n4 c3]) (zk ⟨L, bt, nx, O⟩).1) ∧ zm ((((S4.setCell ⟨(w.heap.size + 1), 0, U⟩ (G a2 nl c2)).setCell ⟨(w.heap.size + 1), 1, U⟩ (E J bt)).setCell ⟨(w.heap.size + 1), 2, U⟩ (E J nx)).setCell ⟨(w.heap.size + 1), 3, U⟩ (G a3 n4 c3)) w.heap.size u5 (zk ⟨L, bt, nx, O⟩).2 ∧ Z w.heap.size w ((((S4.setCell ⟨(w.heap.size + 1), 0, U⟩ (G a2 nl c2)).setCell ⟨(w.heap.size + 1), 1, U⟩ (E J bt)).setCell ⟨(w.heap.size + 1), 2, U⟩ (E J nx)).setCell ⟨(w.heap.size + 1), 3, U⟩ (G a3 n4 c3))) := ⟨fun R hR => hO.v (g := ⟨L, bt, nx, O.filter fun o => o.2.2.1⟩) hR rfl rfl, H4.out.2.set4 z _ _ _ _, H4.out.1.bel.trans (hk4.2.below H4.out.1.bel.size (fun b hb => by omega))⟩
   clear z hk4 hO;go_wp2_with fail
   clear r0 r1 r2 r3 t0 t1 t2 t3 y0 y1 y2 y3 lo lr;generalize ((((S4.setCell ⟨(w.heap.size + 1), 0, U⟩ (G a2 nl c2)).setCell ⟨(w.heap.size + 1), 1, U⟩ (E J bt)).setCell ⟨(w.heap.size + 1), 2, U⟩ (E J nx)).setCell ⟨(w.heap.size + 1), 3, U⟩ (G a3 n4 c3)) = Z9 at *;refine bodyPost_ret (v := .tuple #[.agg #[G a2 nl c2, E J bt, E J nx, G a3 n4 c3], u5]) ?_ rfl ⟨_, _, rfl, HF.out.1, HF.out.2.1, HF.out.2.2⟩;simp [results, Tryz.results15, go_sem, e0, e1, e2, e3]
theorem zo6 (la oa : Option Addr) (nl lc no oc : Nat) (bt nx : Int) (X : List XO) (O : List O4) (w : World) (h : zfs w oa no X O) (hf : zcf O) (hr : ∀ o ∈ O, zcj o.2.1) :
  Calls Tryz.prog 18 #[.agg #[G la nl lc, E J bt, E J nx, G oa no oc]] w fun e w' => ∃ v', e = .returned v' ∧ zm w' w.heap.size v' (O.flatMap za4) ∧ Z w.heap.size w w' := by
 have HN : Q (zfs w oa no X O ∧ zcf O ∧ X.length = O.length) := ⟨h, hf, by rw [← h.says, List.length_map]⟩;have hnl : no ≤ 100000 := by have h1 := h.n; have h2 := hf.1; have h3 := HN.out.2.2; omega
 have HRR := zA hr;clear h hf hr;have hb0 := zh w (T #[G la nl lc, E J bt, E J nx, G oa no oc] 29);go_enter Tryz.func18, Tryz.ntmps18
 go_wp2;generalize w.alloc (T #[G la nl lc, E J bt, E J nx, G oa no oc] 29) = W at *;go_loopw [3, 9] (fun v i w' => ∃ k : Nat, k ≤ no ∧ i = E J k ∧ Q (zm w' w.heap.size v ((O.take k).flatMap za4) ∧ Z w.heap.size w w')) (fun _ i _ => no - (intOf i).toNat)
 case atStart => exact ⟨0, Nat.zero_le _, rfl, zm.nil _ _, hb0⟩
 case round =>
  obtain ⟨k, hk, rfl, hR⟩ := hrel;by_cases hlt : k < no
  ·have hkX : k < X.length := by have := HN.out.1.n; omega
   have hkO : k < O.length := by have := HN.out.2.2; omega
   obtain ⟨hM, hbw⟩ := hR.out;have HE : Q ((O.take (k + 1)).flatMap za4 = (O.take k).flatMap za4 ++ za4 O[k]) := zkn hkO;have hml : ((O.take k).flatMap za4).length ≤ 300000 := by have h1 := zf8 zf5 (O.take k); rw [List.length_take] at h1; omega
   have hsz := hbw.size;generalize (O.take k).flatMap za4 = ms at *;obtain ⟨jz, hZl, hO, hZ, hT⟩ := hM.len;obtain ⟨av, nv, cv, rfl⟩ := hO.slice zbu;obtain ⟨g, o, rfl, hg, d0, d1, d2, d3, hq⟩ := (HN.out.1.lies.below hbw).get hkX
   have hOk : O[k] = zw X[k] := by
    have : O = X.map zw := HN.out.1.says.symm;subst this;rw [List.getElem_map]
   have hfk := HN.out.2.1.2 O[k] (kad hkO);have hrk := HRR.out O[k] (kad hkO);rw [hOk] at hfk HE hrk;generalize X[k] = x at *;obtain ⟨dd, ⟨⟨pa, pc⟩, l⟩, dec, ⟨ha, hc⟩, hd⟩ := x;simp only [zw] at d0 d1 d2 d3 hq hfk HE hrk
   have HRK := zA hrk;clear hrk;have HW : Q (za 25 4 zb3 wr w.heap.size (G av nv cv) jz ∧ jz.map zce = ms ∧ (∀ x ∈ jz, zai w.heap.size wr x.2.2.2.1.1 x.2.2.2.2) ∧ Z w.heap.size w wr ∧ zae wr pa l ∧ zi 1 zu wr ha hd ∧ l.length ≤ 4 ∧ hd.length ≤ 100000) := ⟨hO, hZ, hT, hbw, hq.1, hq.2, hfk.1, hfk.2⟩;have HLL : ∃ ln hn, Q (l.length = ln ∧ hd.length = hn) := ⟨_, _, rfl, rfl⟩;obtain ⟨ln, hn, HLL⟩ := HLL;rw [HLL.out.1] at d1;rw [HLL.out.2] at d3;have hZ3 : jz.length ≤ 300000 := by omega
   clear hR hM hO hZ hT hbw hq hfk hOk hkO hkX hml hZl;go_wp2_with fail
   have hbA := zh wr (T #[E J dd, G pa ln pc, .bool dec, G ha hn hc] 58);have hsA : (wr.alloc (T #[E J dd, G pa ln pc, .bool dec, G ha hn hc] 58)).heap.size = wr.heap.size + 1 := by simp
   generalize wr.alloc (T #[E J dd, G pa ln pc, .bool dec, G ha hn hc] 58) = A at *;refine (zjz dd pa ln pc l dec ha hn hc hd A HLL.out.1.symm HRK.out (HW.out.2.2.2.2.1.below hbA) HLL.out.2.symm (by have := HW.out.2.2.2.2.2.2.2; omega) (HW.out.2.2.2.2.2.1.below hbA)).mono ?_;rintro e w2 ⟨v2, rfl, hM2, hb2⟩;have hml2 := zf5 (dd, l, dec, hd);obtain ⟨zX, hUl, hU, hUs, hUT⟩ := hM2.len;obtain ⟨a2, n2, c2, rfl⟩ := hU.slice zbu;have hUr := hU.at zbu;have HU := zE hUs hUT hUr.2.1 hUr.1 (hbA.trans (hb2.mono (by omega)));have hU3 : zX.length ≤ 3 := by omega
   have hs2 : wr.heap.size + 1 ≤ w2.heap.size := by have := hb2.size; omega
   clear hM2 hU hUs hUT hUr hb2 hbA hUl hml2 d0 d1 d2 d3;go_wp2_with (at_builtin; refine zbi zbu oneM Tryz.underlying41 zfl rfl (by decide) _ rfl _ _ rfl w.heap.size _ jz rfl (HW.out.1.below HU.out.2.2.2.2 (kaa _)) a2 n2 c2 zX rfl HU.out.2.2.1 HU.out.2.2.2.1 (by unfold maxLen; omega) (by omega) (by omega) ?_; intro a4 n4 c4 w4 jy hn4 jq jw; clear hn4)
   have HF : Q (zm w4 w.heap.size (G a4 n4 c4) ((O.take (k + 1)).flatMap za4) ∧ Z w.heap.size w w4) := by
    refine ⟨?_, ?_⟩
    ·rw [HE.out]
     exact zm.app HW.out.2.1 HW.out.2.2.1 (zg.below HU.out.2.2.2.2 (kaa _)) (HW.out.1.below HU.out.2.2.2.2 (kaa _)) jq jy HU.out.1 (fun y hy => (HU.out.2.1 y hy).mono (by omega))
    ·exact (HW.out.2.2.2.1.trans (HU.out.2.2.2.2.mono hsz)).grown jq (by omega) HW.out.1.base
   clear jy jq jw;go_wp2;go_roundw
   case rel => exact ⟨k + 1, by omega, by go_num, HF⟩
   case measure => simp [intOf]; omega
  ·have HF : Q (zm wr w.heap.size u3 (O.flatMap za4) ∧ Z w.heap.size w wr) := by
    have := hR.out;rwa [List.take_of_length_le (by have h1 := HN.out.1.n; have h2 := HN.out.2.2; omega)] at this
   clear hR;go_wp2;go_ret;exact ⟨_, rfl, HF.out.1, HF.out.2⟩
theorem head_gen (a : Option Addr) (X : List XL) (cap n : Nat) (w : World) (hn : n = X.length) (hl : X.length ≤ 500000) (hok : OkL (X.map ze)) (hp : zcc w a X) :
  Calls Tryz.prog 75 #[G a n cap] w fun e w' => ∃ v, e = .returned v ∧ (∀ R : Nat → Prop, (∀ b, R b → b < w.heap.size) → zy R w' v (zn (X.map ze))) ∧ Z w.heap.size w w' := by
 have HO := zj2 a X cap n (w.alloc (T #[G U 0 0, E J 0, E J 0, G U 0 0] 29)) hn (by omega) hok (hp.below (zh w _));have HN := zC hn hok hp;have hnl : n ≤ 500000 := by omega
 clear hn hok hp;go_enter Tryz.func75, Tryz.ntmps75
 go_wp2_with fail
 refine HO.mono ?_;rintro e w1 ⟨la, lc, Y, rfl, hY, hlog, hb1⟩;have hbw1 := (zh w _).trans (hb1.mono (by simp));have hres := (Blk.new w _ _).below hb1 (by simp);have H1 : Q (Y.map ze = X.map ze ∧ zc7 w1 (w.heap.size + 1) (G la n lc) Y ∧ Z w.heap.size w w1 ∧ Blk w1 w.heap.size #[G U 0 0, E J 0, E J 0, G U 0 0] 29 ∧ w.heap.size < w1.heap.size) := ⟨hY, by simpa using hlog, hbw1, hres, hres.lt⟩;have hs1 := hres.lt;clear HO hY hlog hb1 hbw1 hres;go_wp2;go_loopw [13] (fun i w' => ∃ k : Nat, k ≤ n ∧ i = E J k ∧ Q (GAt w1.heap.size w1.heap.size (G la n lc) w' (zaa ((X.take k).map ze)) ∧ Z w1.heap.size w1 w')) (fun i _ => n - (intOf i).toNat)
 case atStart => exact ⟨0, Nat.zero_le _, rfl, ⟨none, 0, 0, [], Blk.new _ _ _, za.nil _ _, (fun x hx => by cases hx), rfl⟩, zh _ _⟩
 case round =>
  obtain ⟨k, hk, rfl, hH⟩ := hrel;by_cases hlt : k < n
  ·have hkX : k < X.length := by have := HN.out.1; omega
   have hbw := H1.out.2.2.1.trans (hH.out.2.mono (by omega));obtain ⟨b, o, rfl, hb, c0, c1, c2, hq⟩ := (HN.out.2.2.below hbw).get hkX;have hokk := zja HN.out.2.1 hkX;have HS : Q (zaa ((X.take (k + 1)).map ze) = zdc (zaa ((X.take k).map ze)) (ze X[k])) := by show _ = _; rw [zh5 hkX, zgv]
   have hinv := zlu ((X.take k).map ze);rw [List.length_map, List.length_take, Nat.min_eq_left (by omega)] at hinv;obtain ⟨hHA, hB1⟩ := hH.out;generalize zaa ((X.take k).map ze) = h at *;obtain ⟨t, DD⟩ := h;obtain ⟨oa, no, oc, XO, hB, hR, hT, hD⟩ := hHA;simp only at hB hD hinv
   generalize X[k] = x at *;obtain ⟨kd, dd, ⟨ax, cx⟩, l⟩ := x;simp only at c0 c1 c2 hq hokk
   have hXl : XO.length ≤ 500000 := by
    have h1 := hinv.2.2;rw [← hD] at h1;simp at h1
    omega
   obtain ⟨hi1, hi2, _⟩ := hinv;have ht : 0 ≤ t ∧ t ≤ 500000 := ⟨hi1, by omega⟩;clear hi1 hi2;obtain ⟨ht0, ht1⟩ := ht;have z1 := hB.cell 1;have z3 := hB.cell 3;have f1 := hB.free 1;have f3 := hB.free 3;simp at z1 z3
   have hsr := hB1.size;have hBlt := hB.lt;have HA := zG hB hR hT hD hq hokk hB1;generalize hll : l.length = nl at *;have HLL := zA hll;clear hq hokk hB hR hT hD hH hll hB1;have HX : Q (Z wr.heap.size wr (wr.alloc (T #[E J kd, E J dd, G ax nl cx] 40))) := zh _ _;have HB := zA (HA.out.2.2.2.2.2.2.trans (HX.out.mono hsr));have hB2 := HA.out.1.below HX.out hBlt;have hR2 := HA.out.2.1.below HX.out (kaa _);have hT2 : ∀ x ∈ XO, zai w1.heap.size (wr.alloc (T #[E J kd, E J dd, G ax nl cx] 40)) x.2.1.1 x.2.2 := fun x hx => (HA.out.2.2.1 x hx).calm (zg.below HX.out (kaa _))
   by_cases k1 : kd = 4
   ·subst k1
    have HE : Q (zdc (t, DD) (ze (4, dd, (ax, cx), l)) = (t + 1, DD)) := rfl
    have HF : Q (GAt w1.heap.size w1.heap.size (G la n lc) ((r wr ⟨w1.heap.size, 1, U⟩ (E J (t + 1))).alloc (T #[E J 4, E J dd, G ax nl cx] 40)) (t + 1, DD)) := by
     have := (GAt.put1 (t := t + 1) HA.out.1 HA.out.2.1 HA.out.2.2.1).below (zh _ (T #[E J 4, E J dd, G ax nl cx] 40));rw [HA.out.2.2.2.1] at this;exact this
    have hBf : Q (Z w1.heap.size w1 ((r wr ⟨w1.heap.size, 1, U⟩ (E J (t + 1))).alloc (T #[E J 4, E J dd, G ax nl cx] 40))) := (HA.out.2.2.2.2.2.2.setCell (kaa _) _).alloc (by simpa using hsr) _;clear hB2 hR2 hT2;go_wp2;go_roundw
    case rel => exact ⟨k + 1, by omega, by go_num, by rw [HS.out, HE.out]; exact HF.out, hBf.out⟩
    case measure => simp [intOf]; omega
   ·have k1' : (kd == 4) = false := by simpa using k1
    by_cases k2 : kd = 5
    ·subst k2
     have HE : Q (zdc (t, DD) (ze (5, dd, (ax, cx), l)) = (t, DD ++ [(dd, l)])) := rfl;have HA2 := zC hB2 hR2 hT2;clear hB2 hR2 hT2;go_wp2_with fail
     refine (deed_any 5 dd ax l cx nl _ HLL.out.symm (by have := HA.out.2.2.2.2.2.1.1; omega) (HA.out.2.2.2.2.1.below HX.out)).mono ?_;rintro e w3 ⟨a3, c3, rfl, ht3, hb3⟩;have hB3 := HA2.out.1.below hb3 HA2.out.1.lt;have hR3 := HA2.out.2.1.below hb3 (kaa _);have hBB := HB.out.trans (hb3.mono (by simp; omega));have HA3 : Q (Blk w3 w1.heap.size #[G la n lc, E J t, E J 0, G oa no oc] 29 ∧ za 58 4 zb6 w3 w1.heap.size (G oa no oc) XO ∧ (∀ x ∈ XO, zai w1.heap.size w3 x.2.1.1 x.2.2) ∧ zai w1.heap.size w3 a3 l ∧ Z w1.heap.size w1 w3) := ⟨hB3, hR3, fun x hx => (HA2.out.2.2 x hx).calm (zg.below hb3 (kaa _)), ht3.mono (by simp; omega), hBB⟩;have z3' := hB3.cell 3;simp at z3'
     have hw3 := hB3.lt;have hw3' := hBB.size;clear z1 z3 f1 f3 hB3 hR3 hBB ht3 hb3 c0 c1 c2 HA2;have HD : Q (Z w3.heap.size w3 (w3.alloc (T #[E J dd, G a3 nl c3] 80))) := zh _ _;go_wp2_with (at_builtin; refine zij zdv oneO Tryz.underlying27 zd9 rfl (by decide) (by decide) _ rfl _ _ rfl w1.heap.size _ XO rfl ((HA3.out.2.1.below HD.out (kaa _)).below (zh _ _) (kaa _)) (some ⟨w3.heap.size + 1, 0, U⟩) 1 1 [(dd, (a3, c3), l)] rfl rfl (zi.one (zao w3 _ _) (by simp [zb6, HLL.out])) (by simp; omega) (by simp; omega) ?_; intro a4 n4 c4 w4 jy hn4 jq jw; clear hn4 jw; have hK4 : Blk w4 w1.heap.size #[G la n lc, E J t, E J 0, G oa no oc] 29 := ((HA3.out.1.alloc _).alloc _).keptT jq (((HA3.out.2.1.below HD.out (kaa _)).below (zh _ _) (kaa _)).grownT (by decide)); have j3 := hK4.cell 3; have j3' := hK4.free 3; simp at j3; have HK4 : Q (Blk w4 w1.heap.size #[G la n lc, E J t, E J 0, G oa no oc] 29) := hK4; clear hK4)
     have hgT := (HA3.out.2.1.below HD.out (kaa _)).below (zh _ (T #[E J dd, G a3 nl c3, .bool true, G U 0 0] 58)) (kaa _);have hC : zg 90 w3 w4 := ((zg.alloc _ _ _).trans (zg.alloc _ _ _)).trans (zg.grown jq (hgT.grownT (by decide)))
     have HF : Q (GAt w1.heap.size w1.heap.size (G la n lc) (r w4 ⟨w1.heap.size, 3, U⟩ (G a4 n4 c4)) (t, DD ++ [(dd, l)])) := by
      have := GAt.put3 HK4.out jy (fun x hx => by
       rcases List.mem_append.1 hx with hx | hx
       ·exact (HA3.out.2.2.1 x hx).calm hC
       ·rw [List.mem_singleton.1 hx]; exact HA3.out.2.2.2.1.calm hC)
      rw [List.map_append, HA.out.2.2.2.1] at this;exact this
     have hBf : Z w1.heap.size w1 (r w4 ⟨w1.heap.size, 3, U⟩ (G a4 n4 c4)) := (((HA3.out.2.2.2.2.trans (HD.out.mono (by omega))).alloc (by simp; omega) _).grown jq (by simp; omega) HA3.out.2.1.base).setCell (kaa _) _;clear jq hgT hC jy j3 j3' HK4;go_wp2;go_roundw
     case rel => exact ⟨k + 1, by omega, by go_num, by rw [HS.out, HE.out]; exact HF.out, hBf⟩
     case measure => simp [intOf]; omega
    ·have k2' : (kd == 5) = false := by simpa using k2
     by_cases k3 : kd = 6
     ·subst k3
      have HE : Q (zdc (t, DD) (ze (6, dd, (ax, cx), l)) = (t, zal DD dd)) := rfl;have hr2 : Blk (wr.alloc (T #[E J 6, E J dd, G ax nl cx] 40)) wr.heap.size #[E J 6, E J dd, G ax nl cx] 40 := Blk.new _ _ _;have HA2 := zD hB2 hR2 hT2 hr2;clear hB2 hR2 hT2 hr2;go_wp2_with fail
      refine (zpd oa XO oc no w1.heap.size wr.heap.size dd _ (by omega) HA2.out.2.1 HA2.out.2.2.2.lt (HA2.out.2.1.neT HA2.out.2.2.2 (by decide)) (HA2.out.2.2.2.cell 1)).mono ?_;rintro e w6 ⟨n6, rfl, ho6, hg6⟩;have hgT := HA2.out.2.1;have hB6 := HA2.out.1.keptT hg6 (hgT.grownT (by decide));have hC6 := zg.grown (t := 90) hg6 (hgT.grownT (by decide))
      have HF : Q (GAt w1.heap.size w1.heap.size (G la n lc) (r w6 ⟨w1.heap.size, 3, U⟩ (G oa n6 oc)) (t, zal DD dd)) := by
       have := GAt.put3 hB6 ho6 (fun x hx => (HA2.out.2.2.1 x (List.mem_filter.1 hx).1).calm hC6);rw [dropD_map, HA.out.2.2.2.1] at this;exact this
      have hBf : Z w1.heap.size w1 (r w6 ⟨w1.heap.size, 3, U⟩ (G oa n6 oc)) := (HB.out.grown hg6 HB.out.size hgT.base).setCell (kaa _) _;have u3 := hB6.cell 3;have g3 := hB6.free 3;simp at u3
      clear hB6 hC6 hgT ho6 hg6 z1 z3 f1 f3;go_wp2;go_roundw
      case rel => exact ⟨k + 1, by omega, by go_num, by rw [HS.out, HE.out]; exact HF.out, hBf⟩
      case measure => simp [intOf]; omega
     ·have k3' : (kd == 6) = false := by simpa using k3
      have HE : Q (zdc (t, DD) (ze (kd, dd, (ax, cx), l)) = (t, DD)) := zp6 k1 k2 k3;have HF : Q (GAt w1.heap.size w1.heap.size (G la n lc) (wr.alloc (T #[E J kd, E J dd, G ax nl cx] 40)) (t, DD)) := ⟨oa, no, oc, XO, hB2, hR2, hT2, HA.out.2.2.2.1⟩;clear k1 k2 k3 hB2 hR2 hT2;go_wp2;go_roundw
      case rel => exact ⟨k + 1, by omega, by go_num, by rw [HS.out, HE.out]; exact HF.out, HB.out⟩
      case measure => simp [intOf]; omega
  ·have hkn : k = n := by omega
   have hfull : (X.take k).map ze = X.map ze := by rw [List.take_of_length_le (by have := HN.out.1; omega)]
   obtain ⟨hHA, hB1⟩ := hH.out;rw [hfull] at hHA;obtain ⟨oa, no, oc, XO, hB, hR, hT, hD⟩ := hHA;have hN := H1.out.2.2.2.1.below hB1 H1.out.2.2.2.1.lt;generalize hhb : zaa (X.map ze) = h at *;have HHB := zA hhb;clear hhb hH hfull;obtain ⟨t, DD⟩ := h;simp only at hB hD
   obtain ⟨hW, hOnly⟩ := fill4 hN (G la n lc) (E J t) (E J 0) (G oa no oc)
   have hBW : Z w.heap.size w (r (r (r (r wr ⟨w.heap.size, 0, U⟩ (G la n lc)) ⟨w.heap.size, 1, U⟩ (E J t)) ⟨w.heap.size, 2, U⟩ (E J 0)) ⟨w.heap.size, 3, U⟩ (G oa no oc)) :=
    ((((H1.out.2.2.1.trans (hB1.mono (by omega))).setCell (kaa _) _).setCell (kaa _) _).setCell (kaa _) _).setCell (kaa _) _
   have HF : Q (∀ R : Nat → Prop, (∀ b, R b → b < w.heap.size) → zy R (r (r (r (r wr ⟨w.heap.size, 0, U⟩ (G la n lc)) ⟨w.heap.size, 1, U⟩ (E J t)) ⟨w.heap.size, 2, U⟩ (E J 0)) ⟨w.heap.size, 3, U⟩ (G oa no oc)) (.agg #[G la n lc, E J t, E J 0, G oa no oc]) (zn (X.map ze))) := by
    intro R hRR;have hlog := H1.out.2.1.below hB1;have k1 := hlog.1.only hOnly (by decide);have k2 := k1.at za7;have k3 := hR.only hOnly (by decide);have k4 := k3.at zdv;have hw1 := H1.out.2.2.2.2;exact zlg HHB.out k2.2.1 k2.1 (k1.outR (fun b hb => by have := hRR b hb; omega) _) H1.out.1 (fun y hy => ((hlog.2 y hy).calm (hOnly.calm (by decide))).outR (fun b hb => by have := hRR b hb; omega)) k4.2.1 k4.1 (k3.outR (fun b hb => by have := hRR b hb; omega) _) hD (fun x hx => ((hT x hx).calm (hOnly.calm (by decide))).outR (fun b hb => by have := hRR b hb; omega))
   have HBlk : Q _ := And.intro hW hBW;have b0 := hB.cell 0;have b1 := hB.cell 1;have b2 := hB.cell 2;have b3 := hB.cell 3;have n0 := hN.cell 0;have n1 := hN.cell 1;have n2 := hN.cell 2;have n3 := hN.cell 3;have f0 := hN.free 0;have f1 := hN.free 1;have f2 := hN.free 2;have f3 := hN.free 3;simp at b0 b1 b2 b3 n0 n1 n2 n3
   clear hW hBW hOnly hB hN hR hT hD;go_wp2_with fail
   clear b0 b1 b2 b3 n0 n1 n2 n3 f0 f1 f2 f3;have e0 := Blk.cell HBlk.out.1 0;have e1 := Blk.cell HBlk.out.1 1;have e2 := Blk.cell HBlk.out.1 2;have e3 := Blk.cell HBlk.out.1 3;simp only [kab, kac, kae] at e0 e1 e2 e3
   refine bodyPost_ret (v := .agg #[G la n lc, E J t, E J 0, G oa no oc]) ?_ rfl ⟨_, rfl, HF.out, HBlk.out.2⟩;simp [results, Tryz.results75, go_sem, e0, e1, e2, e3]
theorem zmv (la : Option Addr) (nl lc : Nat) (Y : List XL) (w : World) (hn : nl = Y.length) (hl : Y.length ≤ 400000) (hok : OkL (Y.map ze)) (hp : zcc w la Y) :
  Calls Tryz.prog 40 #[G la nl lc] w fun e w' => ∃ v', e = .returned v' ∧ (∀ R : Nat → Prop, (∀ b, R b → b < w.heap.size) → zy R w' v' (zn (Y.map ze ++ [(4, 0, [])]))) ∧ Z w.heap.size w w' := by
 have hbV : Z w.heap.size w (((w.alloc (T #[G U 0 0, E J 0, E J 0, G U 0 0] 29)).alloc (T #[E J 4, E J 0, G U 0 0] 40)).alloc (T #[G la nl lc, G (some ⟨w.heap.size + 1, 0, U⟩) 1 1] 26)) := (((zh w _).alloc (by simp) _).alloc (by simp <;> omega) _);have h1 : Blk (((w.alloc (T #[G U 0 0, E J 0, E J 0, G U 0 0] 29)).alloc (T #[E J 4, E J 0, G U 0 0] 40)).alloc (T #[G la nl lc, G (some ⟨w.heap.size + 1, 0, U⟩) 1 1] 26)) w.heap.size #[G U 0 0, E J 0, E J 0, G U 0 0] 29 := ((Blk.new _ _ _).alloc _).alloc _;have h2 : Blk (((w.alloc (T #[G U 0 0, E J 0, E J 0, G U 0 0] 29)).alloc (T #[E J 4, E J 0, G U 0 0] 40)).alloc (T #[G la nl lc, G (some ⟨w.heap.size + 1, 0, U⟩) 1 1] 26)) (w.heap.size + 1) #[E J 4, E J 0, G U 0 0] 40 := Blk.alloc (zao _ _ _) _;have hs2 : ((w.alloc (T #[G U 0 0, E J 0, E J 0, G U 0 0] 29)).alloc (T #[E J 4, E J 0, G U 0 0] 40)).heap.size = w.heap.size + 2 := by simp
 have h3 : Blk (((w.alloc (T #[G U 0 0, E J 0, E J 0, G U 0 0] 29)).alloc (T #[E J 4, E J 0, G U 0 0] 40)).alloc (T #[G la nl lc, G (some ⟨w.heap.size + 1, 0, U⟩) 1 1] 26)) (w.heap.size + 2) #[G la nl lc, G (some ⟨w.heap.size + 1, 0, U⟩) 1 1] 26 := by rw [← hs2]; exact Blk.new _ _ _
 have hs3 : (((w.alloc (T #[G U 0 0, E J 0, E J 0, G U 0 0] 29)).alloc (T #[E J 4, E J 0, G U 0 0] 40)).alloc (T #[G la nl lc, G (some ⟨w.heap.size + 1, 0, U⟩) 1 1] 26)).heap.size = w.heap.size + 3 := by simp
 have HG := zD hn hl hok hp;clear hn hl hok hp hs2;go_enter Tryz.func40, Tryz.ntmps40
 go_wp2_with fail
 generalize (((w.alloc (T #[G U 0 0, E J 0, E J 0, G U 0 0] 29)).alloc (T #[E J 4, E J 0, G U 0 0] 40)).alloc (T #[G la nl lc, G (some ⟨w.heap.size + 1, 0, U⟩) 1 1] 26)) = V at *;have HV := zD hbV h1 hs3 h2;refine (zon (w.heap.size + 2) la (some ⟨w.heap.size + 1, 0, U⟩) Y [(4, 0, (U, 0), [])] nl 1 lc 1 V (by omega) (h3.cell 0) (h3.cell 1) HG.out.1 rfl (by have := HG.out.2.1; simp; omega) (by simp) (HG.out.2.2.2.below hbV).1 (zi.one h2 rfl)).mono ?_;rintro e w1 ⟨a1, n1, c1, rfl, ho1, hb1⟩;have hat := ho1.at za7
 have H1 : Q (zcc w1 a1 (Y ++ [(4, 0, (U, 0), [])]) ∧ n1 = (Y ++ [((4, 0, (U, 0), []) : XL)]).length ∧ Blk w1 w.heap.size #[G U 0 0, E J 0, E J 0, G U 0 0] 29 ∧ Z w.heap.size w w1 ∧ w.heap.size + 3 ≤ w1.heap.size) := by
  refine ⟨⟨hat.1, fun y hy => ?_⟩, hat.2.1, HV.out.2.1.below hb1 HV.out.2.1.lt, HV.out.1.trans (hb1.mono HV.out.1.size), by have := hb1.size; omega⟩;rcases List.mem_append.1 hy with hy | hy
  ·exact ((HG.out.2.2.2.below HV.out.1).below hb1).2 y hy
  ·rw [List.mem_singleton.1 hy]; exact Or.inl rfl
 have hok1 : OkL ((Y ++ [((4, 0, (U, 0), []) : XL)]).map ze) := by
  intro jj hr;rw [List.map_append] at hr;rcases List.mem_append.1 hr with hr | hr
  ·exact HG.out.2.2.1 jj hr
  ·rw [List.mem_singleton.1 hr]; exact ze0
 clear ho1 hb1 hat h1 h2 h3 hbV hs3;go_wp2_with fail
 refine (head_gen a1 (Y ++ [(4, 0, (U, 0), [])]) c1 n1 w1 H1.out.2.1 (by have := HG.out.2.1; simp; omega) hok1 H1.out.1).mono ?_;rintro e w2 ⟨v2, rfl, hv2, hb2⟩;rw [show (Y ++ [((4, 0, (U, 0), []) : XL)]).map ze = Y.map ze ++ [(4, 0, [])] by rw [List.map_append]; rfl] at hv2;obtain ⟨la2, nl2, lc2, Y2, oa2, no2, oc2, X2, rfl, -⟩ := hv2 (fun _ => False) (fun _ h => h.elim);have H0 := zB (H1.out.2.2.1.below hb2 H1.out.2.2.1.lt) (H1.out.2.2.2.1.trans (hb2.mono H1.out.2.2.2.1.size));have hsz1 := H1.out.2.2.2.2;clear hb2 hok1;have hz := H0.out.1;have hk4 := zb0 hz (G la2 nl2 lc2) (E J (zn (Y.map ze ++ [(4, 0, [])])).boot) (E J (zn (Y.map ze ++ [(4, 0, [])])).next) (G oa2 no2 oc2)
 have HF : Q ((∀ R : Nat → Prop, (∀ b, R b → b < w.heap.size) → zy R (r (r (r (r w2 ⟨w.heap.size, 0, U⟩ (G la2 nl2 lc2)) ⟨w.heap.size, 1, U⟩ (E J (zn (Y.map ze ++ [(4, 0, [])])).boot)) ⟨w.heap.size, 2, U⟩ (E J (zn (Y.map ze ++ [(4, 0, [])])).next)) ⟨w.heap.size, 3, U⟩ (G oa2 no2 oc2)) (.agg #[G la2 nl2 lc2, E J (zn (Y.map ze ++ [(4, 0, [])])).boot, E J (zn (Y.map ze ++ [(4, 0, [])])).next, G oa2 no2 oc2]) (zn (Y.map ze ++ [(4, 0, [])]))) ∧ Z w.heap.size w (r (r (r (r w2 ⟨w.heap.size, 0, U⟩ (G la2 nl2 lc2)) ⟨w.heap.size, 1, U⟩ (E J (zn (Y.map ze ++ [(4, 0, [])])).boot)) ⟨w.heap.size, 2, U⟩ (E J (zn (Y.map ze ++ [(4, 0, [])])).next)) ⟨w.heap.size, 3, U⟩ (G oa2 no2 oc2))) := by
  refine ⟨fun R hR => ?_, H0.out.2.trans (hk4.2.below H0.out.2.size (fun b hb => by omega))⟩;exact ((hv2 (fun b => R b ∨ b = w.heap.size) (fun b hb => hb.elim (fun h => by have := hR b h; omega) (fun h => by omega))).keep (hk4.2.mono (fun b _ hb => Or.inr hb))).wide (fun b hb => Or.inl (Or.inl hb))
 obtain ⟨t0, t1, t2, t3⟩ := hz.cells4;obtain ⟨y0, y1, y2, y3⟩ := hz.free4;obtain ⟨e0, e1, e2, e3⟩ := hk4.1.cells4;have lz := hz.lt;clear hk4 hz hv2;go_wp2_with fail
 clear t0 t1 t2 t3 y0 y1 y2 y3 lz;generalize (r (r (r (r w2 ⟨w.heap.size, 0, U⟩ (G la2 nl2 lc2)) ⟨w.heap.size, 1, U⟩ (E J (zn (Y.map ze ++ [(4, 0, [])])).boot)) ⟨w.heap.size, 2, U⟩ (E J (zn (Y.map ze ++ [(4, 0, [])])).next)) ⟨w.heap.size, 3, U⟩ (G oa2 no2 oc2)) = Z9 at *;refine bodyPost_ret (v := .agg #[G la2 nl2 lc2, E J (zn (Y.map ze ++ [(4, 0, [])])).boot, E J (zn (Y.map ze ++ [(4, 0, [])])).next, G oa2 no2 oc2]) ?_ rfl ⟨_, rfl, HF.out.1, HF.out.2⟩;simp [results, Tryz.results40, go_sem, e0, e1, e2, e3]
theorem hdNew_any (w : World) :
  Calls Tryz.prog 13 #[] w fun e w' => ∃ v', e = .returned v' ∧ (∀ R : Nat → Prop, (∀ b, R b → b < w.heap.size) → zy R w' v' (zn [(4, 0, [])])) ∧ Z w.heap.size w w' := by
 have hb0 := zh w (T #[G U 0 0, E J 0, E J 0, G U 0 0] 29);have hz0 : Blk (w.alloc (T #[G U 0 0, E J 0, E J 0, G U 0 0] 29)) w.heap.size #[G U 0 0, E J 0, E J 0, G U 0 0] 29 := Blk.new _ _ _;have hs0 : (w.alloc (T #[G U 0 0, E J 0, E J 0, G U 0 0] 29)).heap.size = w.heap.size + 1 := by simp
 go_enter Tryz.func13, Tryz.ntmps13
 go_wp2_with fail
 generalize w.alloc (T #[G U 0 0, E J 0, E J 0, G U 0 0] 29) = V at *;refine (zmv U 0 0 [] V rfl (by decide) (fun jj hr => by cases hr) ⟨Or.inl rfl, fun y hy => by cases hy⟩).mono ?_;rintro e w2 ⟨v2, rfl, hv2, hb2⟩;rw [show (([] : List XL).map ze ++ [((4, 0, []) : R3)]) = [(4, 0, [])] from rfl] at hv2;obtain ⟨la2, nl2, lc2, Y2, oa2, no2, oc2, X2, rfl, -⟩ := hv2 (fun _ => False) (fun _ h => h.elim);have H0 := zB (hz0.below hb2 hz0.lt) (hb0.trans (hb2.mono hb0.size));clear hb2 hb0 hz0;have hz := H0.out.1;have hk4 := zb0 hz (G la2 nl2 lc2) (E J (zn [(4, 0, [])]).boot) (E J (zn [(4, 0, [])]).next) (G oa2 no2 oc2)
 have HF : Q ((∀ R : Nat → Prop, (∀ b, R b → b < w.heap.size) → zy R (r (r (r (r w2 ⟨w.heap.size, 0, U⟩ (G la2 nl2 lc2)) ⟨w.heap.size, 1, U⟩ (E J (zn [(4, 0, [])]).boot)) ⟨w.heap.size, 2, U⟩ (E J (zn [(4, 0, [])]).next)) ⟨w.heap.size, 3, U⟩ (G oa2 no2 oc2)) (.agg #[G la2 nl2 lc2, E J (zn [(4, 0, [])]).boot, E J (zn [(4, 0, [])]).next, G oa2 no2 oc2]) (zn [(4, 0, [])])) ∧ Z w.heap.size w (r (r (r (r w2 ⟨w.heap.size, 0, U⟩ (G la2 nl2 lc2)) ⟨w.heap.size, 1, U⟩ (E J (zn [(4, 0, [])]).boot)) ⟨w.heap.size, 2, U⟩ (E J (zn [(4, 0, [])]).next)) ⟨w.heap.size, 3, U⟩ (G oa2 no2 oc2))) := by
  refine ⟨fun R hR => ?_, H0.out.2.trans (hk4.2.below H0.out.2.size (fun b hb => by omega))⟩;exact ((hv2 (fun b => R b ∨ b = w.heap.size) (fun b hb => hb.elim (fun h => by have := hR b h; omega) (fun h => by omega))).keep (hk4.2.mono (fun b _ hb => Or.inr hb))).wide (fun b hb => Or.inl (Or.inl hb))
 obtain ⟨t0, t1, t2, t3⟩ := hz.cells4;obtain ⟨y0, y1, y2, y3⟩ := hz.free4;obtain ⟨e0, e1, e2, e3⟩ := hk4.1.cells4;have lz := hz.lt;clear hk4 hz hv2;go_wp2_with fail
 clear t0 t1 t2 t3 y0 y1 y2 y3 lz;generalize (r (r (r (r w2 ⟨w.heap.size, 0, U⟩ (G la2 nl2 lc2)) ⟨w.heap.size, 1, U⟩ (E J (zn [(4, 0, [])]).boot)) ⟨w.heap.size, 2, U⟩ (E J (zn [(4, 0, [])]).next)) ⟨w.heap.size, 3, U⟩ (G oa2 no2 oc2)) = Z9 at *;refine bodyPost_ret (v := .agg #[G la2 nl2 lc2, E J (zn [(4, 0, [])]).boot, E J (zn [(4, 0, [])]).next, G oa2 no2 oc2]) ?_ rfl ⟨_, rfl, HF.out.1, HF.out.2⟩;simp [results, Tryz.results13, go_sem, e0, e1, e2, e3]
theorem zny (la oa : Option Addr) (nl lc no oc : Nat) (g : Gh) (Y : List XL) (X : List XO) (w : World) (H : zbh (fun _ => False) w la nl Y oa no X g.log g.opn) (hf : zcf g.opn) (hok : OkL g.log) (hl : g.log.length ≤ 400000) :
  Calls Tryz.prog 9 #[.agg #[G la nl lc, E J g.boot, E J g.next, G oa no oc]] w fun e w' => ∃ v', e = .returned (.tuple #[v', E J (zq g).2]) ∧ (∀ R : Nat → Prop, (∀ b, R b → b < w.heap.size) → zy R w' v' (zq g).1) ∧ Z w.heap.size w w' := by
 have hb0 := zaw w (T #[G la nl lc, E J g.boot, E J g.next, G oa no oc] 29) (T #[G U 0 0, E J 0, E J 0, G U 0 0] 29);have h0 : Blk ((w.alloc (T #[G la nl lc, E J g.boot, E J g.next, G oa no oc] 29)).alloc (T #[G U 0 0, E J 0, E J 0, G U 0 0] 29)) w.heap.size #[G la nl lc, E J g.boot, E J g.next, G oa no oc] 29 := (Blk.new _ _ _).alloc _;have hz0 : Blk ((w.alloc (T #[G la nl lc, E J g.boot, E J g.next, G oa no oc] 29)).alloc (T #[G U 0 0, E J 0, E J 0, G U 0 0] 29)) (w.heap.size + 1) #[G U 0 0, E J 0, E J 0, G U 0 0] 29 := zao _ _ _;have hs0 : ((w.alloc (T #[G la nl lc, E J g.boot, E J g.next, G oa no oc] 29)).alloc (T #[G U 0 0, E J 0, E J 0, G U 0 0] 29)).heap.size = w.heap.size + 2 := by simp
 have HG := zD (H.below hb0) hf hok hl;clear H hf hok hl;go_enter Tryz.func9, Tryz.ntmps9
 go_upto_region 1 with fail
 generalize ((w.alloc (T #[G la nl lc, E J g.boot, E J g.next, G oa no oc] 29)).alloc (T #[G U 0 0, E J 0, E J 0, G U 0 0] 29)) = V at *;obtain ⟨x0, x1, x2, x3⟩ := h0.cells4;have l0 := h0.lt;by_cases c : 19 < g.boot
 ·have HE : Q (zq g = (g, 5)) := by show _ = _; unfold zq; rw [if_pos c]
  have gc : decide (g.boot ≥ 20) = true := decide_eq_true (by omega);clear c;go_wp2_with fail
  refine (zil la oa nl lc no oc g.boot g.next Y X g.log g.opn V HG.out.1 HG.out.2.1 HG.out.2.2.1 (by have := HG.out.2.2.2; omega)).mono ?_;rintro e w2 ⟨_, rfl, ⟨la2, nl2, lc2, Y2, oa2, no2, oc2, X2, rfl, hO2⟩, hb2⟩;have hv2 : ∀ R : Nat → Prop, (∀ b, R b → b < V.heap.size) → zy R w2 (.agg #[G la2 nl2 lc2, E J g.boot, E J g.next, G oa2 no2 oc2]) g := fun R hR => hO2.v hR rfl rfl
  have H0 := zB (hz0.below hb2 hz0.lt) (hb0.trans (hb2.mono hb0.size));clear hb2 hb0 hz0 h0 hO2 x0 x1 x2 x3 l0;have hz := H0.out.1;have hk4 := zb0 hz (G la2 nl2 lc2) (E J g.boot) (E J g.next) (G oa2 no2 oc2)
  have HF : Q ((∀ R : Nat → Prop, (∀ b, R b → b < w.heap.size) → zy R (r (r (r (r w2 ⟨(w.heap.size + 1), 0, U⟩ (G la2 nl2 lc2)) ⟨(w.heap.size + 1), 1, U⟩ (E J g.boot)) ⟨(w.heap.size + 1), 2, U⟩ (E J g.next)) ⟨(w.heap.size + 1), 3, U⟩ (G oa2 no2 oc2)) (.agg #[G la2 nl2 lc2, E J g.boot, E J g.next, G oa2 no2 oc2]) g) ∧ Z w.heap.size w (r (r (r (r w2 ⟨(w.heap.size + 1), 0, U⟩ (G la2 nl2 lc2)) ⟨(w.heap.size + 1), 1, U⟩ (E J g.boot)) ⟨(w.heap.size + 1), 2, U⟩ (E J g.next)) ⟨(w.heap.size + 1), 3, U⟩ (G oa2 no2 oc2))) := by
   refine ⟨fun R hR => ?_, H0.out.2.trans (hk4.2.below H0.out.2.size (fun b hb => by omega))⟩;exact ((hv2 (fun b => R b ∨ b = (w.heap.size + 1)) (fun b hb => hb.elim (fun h => by have := hR b h; omega) (fun h => by omega))).keep (hk4.2.mono (fun b _ hb => Or.inr hb))).wide (fun b hb => Or.inl (Or.inl hb))
  obtain ⟨t0, t1, t2, t3⟩ := hz.cells4;obtain ⟨y0, y1, y2, y3⟩ := hz.free4;obtain ⟨e0, e1, e2, e3⟩ := hk4.1.cells4;have lz := hz.lt;clear hk4 hz hv2;go_wp2_with fail
  clear t0 t1 t2 t3 y0 y1 y2 y3 lz;generalize (r (r (r (r w2 ⟨(w.heap.size + 1), 0, U⟩ (G la2 nl2 lc2)) ⟨(w.heap.size + 1), 1, U⟩ (E J g.boot)) ⟨(w.heap.size + 1), 2, U⟩ (E J g.next)) ⟨(w.heap.size + 1), 3, U⟩ (G oa2 no2 oc2)) = Z9 at *;refine bodyPost_ret (v := .tuple #[.agg #[G la2 nl2 lc2, E J g.boot, E J g.next, G oa2 no2 oc2], E J 5]) ?_ rfl ⟨_, by rw [HE.out], by rw [HE.out]; exact HF.out.1, HF.out.2⟩;simp [results, Tryz.results9, go_sem, e0, e1, e2, e3]
 ·have HE : Q (zq g = (zn (g.log ++ [(4, 0, [])]), 0)) := by show _ = _; unfold zq; rw [if_neg c]
  have gc : decide (g.boot ≥ 20) = false := decide_eq_false (by omega);clear c;go_wp2_with fail
  refine (zmv la nl lc Y V HG.out.1.ln (by have h1 := HG.out.2.2.2; have h2 := HG.out.1.says; rw [← h2, List.length_map] at h1; exact h1) (by rw [HG.out.1.says]; exact HG.out.2.2.1) ⟨HG.out.1.log, fun y hy => (HG.out.1.parts y hy).1⟩).mono ?_;rintro e w2 ⟨v2, rfl, hv2, hb2⟩;rw [HG.out.1.says] at hv2;obtain ⟨la2, nl2, lc2, Y2, oa2, no2, oc2, X2, rfl, -⟩ := hv2 (fun _ => False) (fun _ h => h.elim);have H0 := zB (hz0.below hb2 hz0.lt) (hb0.trans (hb2.mono hb0.size));clear hb2 hb0 hz0 h0 x0 x1 x2 x3 l0;have hz := H0.out.1;have hk4 := zb0 hz (G la2 nl2 lc2) (E J (zn (g.log ++ [(4, 0, [])])).boot) (E J (zn (g.log ++ [(4, 0, [])])).next) (G oa2 no2 oc2)
  have HF : Q ((∀ R : Nat → Prop, (∀ b, R b → b < w.heap.size) → zy R (r (r (r (r w2 ⟨(w.heap.size + 1), 0, U⟩ (G la2 nl2 lc2)) ⟨(w.heap.size + 1), 1, U⟩ (E J (zn (g.log ++ [(4, 0, [])])).boot)) ⟨(w.heap.size + 1), 2, U⟩ (E J (zn (g.log ++ [(4, 0, [])])).next)) ⟨(w.heap.size + 1), 3, U⟩ (G oa2 no2 oc2)) (.agg #[G la2 nl2 lc2, E J (zn (g.log ++ [(4, 0, [])])).boot, E J (zn (g.log ++ [(4, 0, [])])).next, G oa2 no2 oc2]) (zn (g.log ++ [(4, 0, [])]))) ∧ Z w.heap.size w (r (r (r (r w2 ⟨(w.heap.size + 1), 0, U⟩ (G la2 nl2 lc2)) ⟨(w.heap.size + 1), 1, U⟩ (E J (zn (g.log ++ [(4, 0, [])])).boot)) ⟨(w.heap.size + 1), 2, U⟩ (E J (zn (g.log ++ [(4, 0, [])])).next)) ⟨(w.heap.size + 1), 3, U⟩ (G oa2 no2 oc2))) := by
   refine ⟨fun R hR => ?_, H0.out.2.trans (hk4.2.below H0.out.2.size (fun b hb => by omega))⟩;exact ((hv2 (fun b => R b ∨ b = (w.heap.size + 1)) (fun b hb => hb.elim (fun h => by have := hR b h; omega) (fun h => by omega))).keep (hk4.2.mono (fun b _ hb => Or.inr hb))).wide (fun b hb => Or.inl (Or.inl hb))
  obtain ⟨t0, t1, t2, t3⟩ := hz.cells4;obtain ⟨y0, y1, y2, y3⟩ := hz.free4;obtain ⟨e0, e1, e2, e3⟩ := hk4.1.cells4;have lz := hz.lt;clear hk4 hz hv2;go_wp2_with fail
  clear t0 t1 t2 t3 y0 y1 y2 y3 lz;generalize (r (r (r (r w2 ⟨(w.heap.size + 1), 0, U⟩ (G la2 nl2 lc2)) ⟨(w.heap.size + 1), 1, U⟩ (E J (zn (g.log ++ [(4, 0, [])])).boot)) ⟨(w.heap.size + 1), 2, U⟩ (E J (zn (g.log ++ [(4, 0, [])])).next)) ⟨(w.heap.size + 1), 3, U⟩ (G oa2 no2 oc2)) = Z9 at *;refine bodyPost_ret (v := .tuple #[.agg #[G la2 nl2 lc2, E J (zn (g.log ++ [(4, 0, [])])).boot, E J (zn (g.log ++ [(4, 0, [])])).next, G oa2 no2 oc2], E J 0]) ?_ rfl ⟨_, by rw [HE.out], by rw [HE.out]; exact HF.out.1, HF.out.2⟩;simp [results, Tryz.results9, go_sem, e0, e1, e2, e3]
end Go.Proofs.YtpcnlifmkhagkaaGreat
