import Derived.Test.YtpcnlifmkhagkaaKAHr2
import Derived.Test.YtpcnlifmkhagkaaKAJ24
set_option maxRecDepth 20000
set_option maxHeartbeats 20000000
namespace Go.Proofs.Ytpcnlifmkhagkaa
open Go.RowKit
open Go.Value renaming slice → G, int → E
open Go.IntKind renaming i64 → J
open _root_.Option renaming none → U
open Go.Obj renaming cells → T
open Go.RowKit renaming Hid → Q, Below → Z
open Go.World renaming setCell → r
open _root_.List renaming getElem?_toArray → kaa, getElem?_cons_zero → kab, getElem?_cons_succ → kac, getElem_mem → kad
attribute [local go_sem ↓] Go.wp_at_zero Go.wp_at_succ
theorem zok (la oa : Option Addr) (nl lc no oc : Nat) (bt nx : Int) (L : List R3) (O : List O4) (Y : List XL) (X : List XO) (md mh : Int) (ma : Option Addr) (mn mc : Nat) (ml : List P3) (w : World) (H : zbk (fun _ => False) w la nl Y oa no X L O) (hf : zcd O) (hok : OkL L) (hl : L.length ≤ 400000) (hex : ∃ o ∈ O, o.1 = md) (hr : ∀ o ∈ O, zcb o.2.1) :
  Calls Try.prog 9 #[.agg #[G la nl lc, E J bt, E J nx, G oa no oc], .agg #[E J 7, E J md, E J mh, G ma mn mc]] w fun e w' => ∃ v' sv, e = .returned (.tuple #[v', sv]) ∧ (∀ R : Nat → Prop, (∀ b, R b → b < w.heap.size) → zy R w' v' (zh ⟨L, bt, nx, O⟩ (7, md, mh, ml)).1) ∧ zm w' w.heap.size sv (zh ⟨L, bt, nx, O⟩ (7, md, mh, ml)).2 ∧ Z w.heap.size w w' := by
 have hb0 : Z w.heap.size w (((w.alloc (T #[G la nl lc, E J bt, E J nx, G oa no oc] 29)).alloc (T #[E J 7, E J md, E J mh, G ma mn mc] 43)).alloc (T #[G U 0 0, E J 0, E J 0, G U 0 0] 29)) := (za2 w (T #[G la nl lc, E J bt, E J nx, G oa no oc] 29) (T #[E J 7, E J md, E J mh, G ma mn mc] 43)).alloc (by simp; omega) _;have h0 : Blk (((w.alloc (T #[G la nl lc, E J bt, E J nx, G oa no oc] 29)).alloc (T #[E J 7, E J md, E J mh, G ma mn mc] 43)).alloc (T #[G U 0 0, E J 0, E J 0, G U 0 0] 29)) w.heap.size #[G la nl lc, E J bt, E J nx, G oa no oc] 29 := ((Blk.new _ _ _).alloc _).alloc _;have hm0 : Blk (((w.alloc (T #[G la nl lc, E J bt, E J nx, G oa no oc] 29)).alloc (T #[E J 7, E J md, E J mh, G ma mn mc] 43)).alloc (T #[G U 0 0, E J 0, E J 0, G U 0 0] 29)) (w.heap.size + 1) #[E J 7, E J md, E J mh, G ma mn mc] 43 := Blk.alloc (zaq _ _ _) _;have hs2 : ((w.alloc (T #[G la nl lc, E J bt, E J nx, G oa no oc] 29)).alloc (T #[E J 7, E J md, E J mh, G ma mn mc] 43)).heap.size = w.heap.size + 2 := by simp
 have hz0 : Blk (((w.alloc (T #[G la nl lc, E J bt, E J nx, G oa no oc] 29)).alloc (T #[E J 7, E J md, E J mh, G ma mn mc] 43)).alloc (T #[G U 0 0, E J 0, E J 0, G U 0 0] 29)) (w.heap.size + 2) #[G U 0 0, E J 0, E J 0, G U 0 0] 29 := by rw [← hs2]; exact Blk.new _ _ _
 have hs0 : (((w.alloc (T #[G la nl lc, E J bt, E J nx, G oa no oc] 29)).alloc (T #[E J 7, E J md, E J mh, G ma mn mc] 43)).alloc (T #[G U 0 0, E J 0, E J 0, G U 0 0] 29)).heap.size = w.heap.size + 3 := by simp
 have hnL : nl = L.length := by rw [← H.says, List.length_map]; exact H.ln
 have HG := zE (H.below hb0) hf hok hl hnL;clear H hf hok hl hnL hs2;go_enter Try.func9, Try.ntmps9
 go_upto_region 1 with fail
 generalize (((w.alloc (T #[G la nl lc, E J bt, E J nx, G oa no oc] 29)).alloc (T #[E J 7, E J md, E J mh, G ma mn mc] 43)).alloc (T #[G U 0 0, E J 0, E J 0, G U 0 0] 29)) = V at *;obtain ⟨x0, x1, x2, x3⟩ := h0.cells4;have l0 := h0.lt;go_wp2_with fail
 refine (zgd la oa nl lc no oc bt nx Y X L O V HG.out.1 HG.out.2.1 HG.out.2.2.1 (by have := HG.out.2.2.2.1; omega)).mono ?_;rintro e w2 ⟨_, rfl, ⟨a2, n2, c2, Y2, a3, n3, c3, X2, rfl, hO2, hE2⟩, jV⟩;have hn2 : n2 = nl := by rw [(hO2.log.1.at za4).2.1, HG.out.2.2.2.2, ← hO2.says, List.length_map]
 subst hn2
 have H1 : Q (HrS w 7 md mh (G ma mn mc) bt nx w2.heap.size (w2.alloc (T #[G a2 n2 c2, E J bt, E J nx, G a3 n3 c3] 29)) a2 n2 c2 Y2 L a3 n3 c3 X2 O) := by
  have hbb := zi w2 (T #[G a2 n2 c2, E J bt, E J nx, G a3 n3 c3] 29);have hsz := jV.size;exact ⟨(hm0.below jV hm0.lt).below hbb (by omega), (hz0.below jV hz0.lt).below hbb (by omega), Blk.new _ _ _, (hO2.mono (by omega : w.heap.size + 3 ≤ V.heap.size)).below hbb, (hE2.mono (by omega : w.heap.size + 3 ≤ V.heap.size)).below hbb, (hb0.trans (jV.mono hb0.size)).trans (hbb.mono (by omega)), by omega⟩
 clear hO2 hE2 jV hb0 hz0 hm0 h0 hs0 x0 x1 x2 x3 l0;go_upto_region 3 with fail
 obtain ⟨N7, hN7⟩ : ∃ N7, N7 = w2.heap.size := ⟨_, rfl⟩;rw [← hN7] at H1;generalize w2.alloc (T #[G a2 n2 c2, E J bt, E J nx, G a3 n3 c3] 29) = A at *;rw [← hN7];clear hN7;obtain ⟨nl, hnl'⟩ : ∃ nl, nl = n2 := ⟨_, rfl⟩;subst hnl';have x3 := H1.out.ob.cell 3;simp only [kaa, kab, kac] at x3
 have l0 := H1.out.ob.lt;have hn3 : Q (n3 = X2.length ∧ X2.length ≤ 100000) := ⟨(H1.out.hd.opn.at zas).2.1, by have h1 := H1.out.hd.osays; have h2 := HG.out.2.1.1; rw [← h1, List.length_map] at h2; exact h2⟩;go_wp2_with fail
 refine (zga 21 #[.pointer (some ⟨w.heap.size + 1, 0, U⟩)] zgl (fun x => x.1 == md) a3 X2 c3 n3 A hn3.out.1 (by have := hn3.out.2; omega) (H1.out.hd.opn.at zas).1 (fun x _ w' hb => zgk (w.heap.size + 1) 7 md mh x.1 (G ma mn mc) _ _ _ w' (H1.out.mb.below hb H1.out.mb.lt))).mono ?_;rintro e w3 ⟨jj, rfl, hidx, hb3⟩;have HX := zA hidx;have H3 : Q (HrS w 7 md mh (G ma mn mc) bt nx N7 (w3.alloc (T #[E J jj] 3)) a2 nl c2 Y2 L a3 n3 c3 X2 O ∧ Blk (w3.alloc (T #[E J jj] 3)) w3.heap.size #[E J jj] 3) := ⟨(H1.out.below hb3).below (zi w3 _), Blk.new _ _ _⟩;clear hidx hb3 H1 x3 l0;go_upto_region 4 with fail
 generalize w3.alloc (T #[E J jj] 3) = D at *;have i0 := H3.out.2.cell 0;simp only [kaa, kab] at i0
 have li := H3.out.2.lt
 obtain ⟨i, hi, hri, hdi, hlow⟩ : ∃ (i : Nat) (hi : i < X2.length), jj = i ∧ X2[i].1 = md ∧ ∀ j (hj : j < X2.length), j < i → X2[j].1 ≠ md := by
  rcases HX.out with ⟨_, h⟩ | ⟨i, hi, h1, h2, h3⟩
  ·exfalso
   obtain ⟨o, ho, hod⟩ := hex;rw [← H3.out.1.hd.osays] at ho;obtain ⟨x, hx, rfl⟩ := List.mem_map.1 ho;have h2 := h x hx;simp [zz] at h2 hod
   exact h2 hod
  ·exact ⟨i, hi, h1, by simpa using h2, fun j hj hji => by simpa using h3 j hj hji⟩
 subst hri;have hiO : i < O.length := by have h1 := H3.out.1.hd.osays; rw [← h1, List.length_map]; exact hi
 have hOi : O[i] = zz X2[i] := by
  have : O = X2.map zz := H3.out.1.hd.osays.symm;subst this;rw [List.getElem_map]
 have HH : Q (zbx (7, md, mh, ml) O = some (O.take i ++ ((zq (7, md, mh, ml) (zz X2[i])).1.toList ++ O.drop (i + 1)), (zq (7, md, mh, ml) (zz X2[i])).2.1, (zq (7, md, mh, ml) (zz X2[i])).2.2) ∧ O = O.take i ++ (zz X2[i] :: O.drop (i + 1)) ∧ O.eraseIdx i = O.take i ++ O.drop (i + 1)) := by
  refine ⟨?_, by rw [← hOi, ← List.drop_eq_getElem_cons hiO, List.take_append_drop], List.eraseIdx_eq_take_drop_succ _ _⟩;rw [← hOi]
  exact zgn hiO (by rw [hOi]; exact hdi) (fun j hj hji => by
   have h1 := hlow j (by have h1 := H3.out.1.hd.osays; rw [← h1, List.length_map] at hj; exact hj) hji
   have h2 : O[j] = zz (X2[j]'(by have h1 := H3.out.1.hd.osays; rw [← h1, List.length_map] at hj; exact hj)) := by
    have : O = X2.map zz := H3.out.1.hd.osays.symm;subst this;rw [List.getElem_map]
   rw [h2]
   exact h1)
 have hro := hr O[i] (kad hiO);rw [hOi] at hro
 obtain ⟨g, ha3⟩ : ∃ g, a3 = some ⟨g, 0, U⟩ := by
  rcases H3.out.1.hd.opn.2 with ⟨hv, h0⟩ | ⟨g, cap', cur, hv, _⟩
  ·exfalso; omega
  ·cases hv; exact ⟨g, rfl⟩
 subst ha3;obtain ⟨hgl, d0, d1, d2, d3⟩ := zew (H3.out.1.hd.opn.at zas).1 hi;simp only [Nat.zero_add] at d0 d1 d2 d3
 have hop := H3.out.1.hd.op _ (kad hi);have hin : i < n3 := by rw [hn3.out.1]; exact hi
 obtain ⟨x, hx⟩ : ∃ x, Q (X2[i] = x) := ⟨X2[i], by show _ = _; rfl⟩;rw [hx.out] at d0 d1 d2 d3 hop hro hdi;rw [hx.out] at HH;clear hex hlow hOi;obtain ⟨dd, ⟨⟨pa, pc⟩, l⟩, dec, ⟨ha, hc⟩, hd⟩ := x;simp only [zz] at d0 d1 d2 d3 hop hro hdi HH
 subst hdi;obtain ⟨ln, hn, HLL⟩ : ∃ ln hn, Q (l.length = ln ∧ hd.length = hn) := ⟨_, _, rfl, rfl⟩;rw [HLL.out.1] at d1;rw [HLL.out.2] at d3;have gi : decide ((i : Int) < 0) = false := decide_eq_false (by omega);have x3 := H3.out.1.ob.cell 3;simp only [kaa, kab, kac] at x3
 have m0 := H3.out.1.mb.cell 0;simp only [kaa, kab] at m0
 have lm := H3.out.1.mb.lt;have lx := H3.out.1.ob.lt
 cases dec with
 | true =>
  have HP : Q (zh ⟨L, bt, nx, O⟩ (7, dd, mh, ml) = (⟨L, bt, nx, O⟩, [(4, dd, mh, [])])) := by
   show _ = _
   unfold zh
   simp only
   rw [HH.out.1, show zq (7, dd, mh, ml) (dd, l, true, hd) = (some (dd, l, true, hd), [], [(4, dd, mh, [])]) from zkd rfl rfl];have h := HH.out.2.1;simp only [Option.toList_some, List.singleton_append, List.append_nil]
   rw [← h]
  go_upto_region 25 with fail
  clear d0 d1 d2 d3 x3 m0 lm lx i0 li gi;have hX1 : Z D.heap.size D D.drew := (Below.refl _ _).drew;have HK : Q (∀ w', Z D.heap.size D w' → (w'.cell? ⟨N7, 0, U⟩ = some (G a2 nl c2) ∧ w'.cell? ⟨N7, 1, U⟩ = some (E J bt) ∧ w'.cell? ⟨N7, 2, U⟩ = some (E J nx) ∧ w'.cell? ⟨N7, 3, U⟩ = some (G (some ⟨g, 0, U⟩) n3 c3))) := fun w' hb => ⟨(H3.out.1.ob.below hb H3.out.1.ob.lt).cell 0, (H3.out.1.ob.below hb H3.out.1.ob.lt).cell 1, (H3.out.1.ob.below hb H3.out.1.ob.lt).cell 2, (H3.out.1.ob.below hb H3.out.1.ob.lt).cell 3⟩
  refine zcf (S := fun w' => (w'.cell? ⟨N7, 0, U⟩ = some (G a2 nl c2) ∧ w'.cell? ⟨N7, 1, U⟩ = some (E J bt) ∧ w'.cell? ⟨N7, 2, U⟩ = some (E J nx) ∧ w'.cell? ⟨N7, 3, U⟩ = some (G (some ⟨g, 0, U⟩) n3 c3))) 3 (by kernel_rfl) (HK.out _ hX1) (fun jq => ?_);refine tks 2 [(0, 114), (1, 115)] (b := ?_) rfl (by decide +kernel) (fun _ _ _ _ _ h => h) ?_ jq ?_;rotate_left 1
  ·iterate 2 (refine zaa.cons (v := ?_) rfl rfl (by rfl) ?_ ?_; rotate_left 1; (intro w h; (try dsimp only at h); go_simp; try with_reducible rfl))
   exact zaa.nil
  refine rdy 2 (by kernel_rfl) rfl (fun K hK => ?_);go_simp;refine (zll (w.heap.size + 1) 7 dd mh 4 (G ma mn mc) D.drew (H3.out.1.mb.below hX1 H3.out.1.mb.lt)).mono ?_;rintro e w4 ⟨v4, rfl, hM4, hb4⟩;have hX4 := hX1.trans (hb4.mono hX1.size);have hM4' : zm w4 w.heap.size v4 [(4, dd, mh, [])] := hM4.mono (by have h1 := H3.out.1.bel.size; have h2 := hX1.size; omega);clear hM4 hb4;go_wp2_with fail
  refine kgo hK (by decide +kernel) ((HK.out _ hX4)) (fun jq => ?_);clear hK K;have z := H3.out.1.rb.below hX4 H3.out.1.rb.lt;obtain ⟨t0, t1, t2, t3⟩ := z.cells4;obtain ⟨y0, y1, y2, y3⟩ := z.free4;have lr := z.lt;refine rdy 3 (by kernel_rfl) rfl (fun K hK => ?_);go_simp;refine zbb hK (by decide +kernel) ?_;clear hK K jq;refine rdy 4 (by kernel_rfl) rfl (fun K hK => ?_);go_simp;refine zbb hK (by decide +kernel) ?_;clear hK K;refine zbo (by kernel_rfl) ?_ _;obtain ⟨p1, p2, p3⟩ := (H3.out.1.below hX4).ret;obtain ⟨e0, e1, e2, e3⟩ := p3.cells4;have HF : Q ((∀ R : Nat → Prop, (∀ b, R b → b < w.heap.size) → zy R (r (r (r (r w4 ⟨(w.heap.size + 2), 0, U⟩ (G a2 nl c2)) ⟨(w.heap.size + 2), 1, U⟩ (E J bt)) ⟨(w.heap.size + 2), 2, U⟩ (E J nx)) ⟨(w.heap.size + 2), 3, U⟩ (G (some ⟨g, 0, U⟩) n3 c3)) (.agg #[G a2 nl c2, E J bt, E J nx, G (some ⟨g, 0, U⟩) n3 c3]) (zh ⟨L, bt, nx, O⟩ (7, dd, mh, ml)).1) ∧ zm (r (r (r (r w4 ⟨(w.heap.size + 2), 0, U⟩ (G a2 nl c2)) ⟨(w.heap.size + 2), 1, U⟩ (E J bt)) ⟨(w.heap.size + 2), 2, U⟩ (E J nx)) ⟨(w.heap.size + 2), 3, U⟩ (G (some ⟨g, 0, U⟩) n3 c3)) w.heap.size v4 (zh ⟨L, bt, nx, O⟩ (7, dd, mh, ml)).2 ∧ Z w.heap.size w (r (r (r (r w4 ⟨(w.heap.size + 2), 0, U⟩ (G a2 nl c2)) ⟨(w.heap.size + 2), 1, U⟩ (E J bt)) ⟨(w.heap.size + 2), 2, U⟩ (E J nx)) ⟨(w.heap.size + 2), 3, U⟩ (G (some ⟨g, 0, U⟩) n3 c3))) := by rw [HP.out]; exact ⟨p1, hM4'.set4 z _ _ _ _, p2⟩
  clear p1 p2 p3 hM4' z t0 t1 t2 t3 y0 y1 y2 y3 lr;generalize (r (r (r (r w4 ⟨(w.heap.size + 2), 0, U⟩ (G a2 nl c2)) ⟨(w.heap.size + 2), 1, U⟩ (E J bt)) ⟨(w.heap.size + 2), 2, U⟩ (E J nx)) ⟨(w.heap.size + 2), 3, U⟩ (G (some ⟨g, 0, U⟩) n3 c3)) = Z9 at *;go_wp2_with fail
  refine bodyPost_ret (v := .tuple #[.agg #[G a2 nl c2, E J bt, E J nx, G (some ⟨g, 0, U⟩) n3 c3], v4]) ?_ rfl ⟨_, _, rfl, HF.out.1, HF.out.2.1, HF.out.2.2⟩;simp [results, Try.results9, go_sem, e0, e1, e2, e3]
 | false =>
  have HP : Q (zh ⟨L, bt, nx, O⟩ (7, dd, mh, ml) = (⟨L, bt, nx, O⟩, [])) := by
   show _ = _
   unfold zh
   simp only
   rw [HH.out.1, show zq (7, dd, mh, ml) (dd, l, false, hd) = (some (dd, l, false, hd), [], []) from zdr (fun h => absurd (show (7 : Int) = 2 from h.1) (by decide)) (fun h => absurd (show (7 : Int) = 3 from h.1) (by decide)) (fun h => by cases h.2.1) (fun h => by cases h.2)];have h := HH.out.2.1;simp only [Option.toList_some, List.singleton_append, List.append_nil]
   rw [← h]
  go_upto_region 26 with fail
  clear d0 d1 d2 d3 x3 m0 lm lx i0 li gi;obtain ⟨r0, r1, r2, r3⟩ := (H3.out.1).ob.cells4;obtain ⟨t0, t1, t2, t3⟩ := (H3.out.1).rb.cells4;obtain ⟨y0, y1, y2, y3⟩ := (H3.out.1).rb.free4;have lo := (H3.out.1).ob.lt;have lr := (H3.out.1).rb.lt;obtain ⟨p1, p2, p3⟩ := (H3.out.1).ret;obtain ⟨e0, e1, e2, e3⟩ := p3.cells4;have HF : Q ((∀ R : Nat → Prop, (∀ b, R b → b < w.heap.size) → zy R ((((D.setCell ⟨(w.heap.size + 2), 0, U⟩ (G a2 nl c2)).setCell ⟨(w.heap.size + 2), 1, U⟩ (E J bt)).setCell ⟨(w.heap.size + 2), 2, U⟩ (E J nx)).setCell ⟨(w.heap.size + 2), 3, U⟩ (G (some ⟨g, 0, U⟩) n3 c3)) (.agg #[G a2 nl c2, E J bt, E J nx, G (some ⟨g, 0, U⟩) n3 c3]) (zh ⟨L, bt, nx, O⟩ (7, dd, mh, ml)).1) ∧ zm ((((D.setCell ⟨(w.heap.size + 2), 0, U⟩ (G a2 nl c2)).setCell ⟨(w.heap.size + 2), 1, U⟩ (E J bt)).setCell ⟨(w.heap.size + 2), 2, U⟩ (E J nx)).setCell ⟨(w.heap.size + 2), 3, U⟩ (G (some ⟨g, 0, U⟩) n3 c3)) w.heap.size (G U 0 0) (zh ⟨L, bt, nx, O⟩ (7, dd, mh, ml)).2 ∧ Z w.heap.size w ((((D.setCell ⟨(w.heap.size + 2), 0, U⟩ (G a2 nl c2)).setCell ⟨(w.heap.size + 2), 1, U⟩ (E J bt)).setCell ⟨(w.heap.size + 2), 2, U⟩ (E J nx)).setCell ⟨(w.heap.size + 2), 3, U⟩ (G (some ⟨g, 0, U⟩) n3 c3))) := by rw [HP.out]; exact ⟨p1, zm.nil _ _, p2⟩
  clear p1 p2 p3;go_wp2_with fail
  clear r0 r1 r2 r3 t0 t1 t2 t3 y0 y1 y2 y3 lo lr;generalize ((((D.setCell ⟨(w.heap.size + 2), 0, U⟩ (G a2 nl c2)).setCell ⟨(w.heap.size + 2), 1, U⟩ (E J bt)).setCell ⟨(w.heap.size + 2), 2, U⟩ (E J nx)).setCell ⟨(w.heap.size + 2), 3, U⟩ (G (some ⟨g, 0, U⟩) n3 c3)) = Z9 at *;refine bodyPost_ret (v := .tuple #[.agg #[G a2 nl c2, E J bt, E J nx, G (some ⟨g, 0, U⟩) n3 c3], (G U 0 0)]) ?_ rfl ⟨_, _, rfl, HF.out.1, HF.out.2.1, HF.out.2.2⟩;simp [results, Try.results9, go_sem, e0, e1, e2, e3]
theorem zn1 (la oa : Option Addr) (nl lc no oc : Nat) (bt nx : Int) (L : List R3) (O : List O4) (Y : List XL) (X : List XO) (mk md mh : Int) (ma : Option Addr) (mn mc : Nat) (ml : List P3) (w : World) (H : zbk (fun _ => False) w la nl Y oa no X L O) (hf : zcd O) (hok : OkL L) (hl : L.length ≤ 400000) (hr : ∀ o ∈ O, zcb o.2.1) (hw : ∀ o ∈ O, o.2.2.2.Nodup ∧ (∀ k ∈ o.2.2.2, k ∈ zp o.2.1) ∧ o.2.2.2.length ≤ 1000) :
  Calls Try.prog 9 #[.agg #[G la nl lc, E J bt, E J nx, G oa no oc], .agg #[E J mk, E J md, E J mh, G ma mn mc]] w fun e w' => ∃ v' sv, e = .returned (.tuple #[v', sv]) ∧ (∀ R : Nat → Prop, (∀ b, R b → b < w.heap.size) → zy R w' v' (zh ⟨L, bt, nx, O⟩ (mk, md, mh, ml)).1) ∧ zm w' w.heap.size sv (zh ⟨L, bt, nx, O⟩ (mk, md, mh, ml)).2 ∧ Z w.heap.size w w' := by
 by_cases hex : ∃ o ∈ O, o.1 = md
 ·by_cases k2 : mk = 2
  ·subst k2; exact zm2 la oa nl lc no oc bt nx L O Y X md mh ma mn mc ml w H hf hok hl hex hr hw
  by_cases k3 : mk = 3
  ·subst k3; exact zow la oa nl lc no oc bt nx L O Y X md mh ma mn mc ml w H hf hok hl hex hr
  by_cases k6 : mk = 6
  ·subst k6; exact zp2 la oa nl lc no oc bt nx L O Y X md mh ma mn mc ml w H hf hok hl hex hr hw
  by_cases k7 : mk = 7
  ·subst k7; exact zok la oa nl lc no oc bt nx L O Y X md mh ma mn mc ml w H hf hok hl hex hr
  exact zqb la oa nl lc no oc bt nx L O Y X mk md mh ma mn mc ml w H hf hok hl hex hr k2 k3 k6 k7
 ·exact zos la oa nl lc no oc bt nx L O Y X mk md mh ma mn mc ml w H hf hok hl (fun o ho e => hex ⟨o, ho, e⟩)
section
variable {w0 w w' : World} {la : Option Addr} {nl lc : Nat} {bt nx : Int} {oa : Option Addr} {no oc : Nat} {B : Nat} {a2 : Option Addr} {c2 : Nat} {Y2 : List XL} {L : List R3} {a3 : Option Addr} {n3 c3 : Nat} {X2 : List XO} {O : List O4}
theorem zbv.grownM (H : zbv w0 la nl lc bt nx oa no oc B a2 c2 Y2 L w a3 n3 c3 X2 O) {base : Nat} {v : Value} {jz : List XM} (hg : w.grownBy w' v.ownBlock) (hZ : zd 43 4 zb4 w base v jz) (hbase : w0.heap.size ≤ base) : zbv w0 la nl lc bt nx oa no oc B a2 c2 Y2 L w' a3 n3 c3 X2 O := by
 have hbel := H.bel.grown hg H.bel.size (fun k hk => by have := hZ.base _ hk; omega);exact ⟨H.hb.keptT hg (hZ.grownT (by decide)), H.rb.keptT hg (hZ.grownT (by decide)), H.ob.keptT hg (hZ.grownT (by decide)), ⟨⟨H.hd.log.1.keptT hg (hZ.grownT (by decide)), fun y hy => (H.hd.log.2 y hy).calm (zj.grown hg (hZ.grownT (by decide)))⟩, H.hd.says, H.hd.opn.keptT hg (hZ.grownT (by decide)), H.hd.osays, fun x hx => ⟨(H.hd.op x hx).1.calm (zj.grown hg (hZ.grownT (by decide))), (H.hd.op x hx).2.calm (zj.grown hg (hZ.grownT (by decide)))⟩⟩, hbel, H.ne⟩
theorem zbv.del (H : zbv w0 la nl lc bt nx oa no oc B a2 c2 Y2 L w a3 n3 c3 X2 O) (hg : w.grownBy w' (Value.ownBlock (G a3 n3 c3))) {a4 : Option Addr} {n4 c4 : Nat} {X' : List XO} {O' : List O4} (h4 : zd 38 4 zan w' (w0.heap.size + 2) (G a4 n4 c4) X') (hs : ∀ x ∈ X', x ∈ X2) (hO : X'.map zz = O') :
  zbv w0 la nl lc bt nx oa no oc B a2 c2 Y2 L (r w' ⟨B, 3, U⟩ (G a4 n4 c4)) a4 n4 c4 X' O' := by
 have hne : ∀ b, b < w0.heap.size + 2 → Value.ownBlock (G a3 n3 c3) ≠ some b := fun b hb e => by have := H.hd.opn.base _ e; omega
 have o4 := H.ob.keptT hg (H.hd.opn.grownT (by decide));have hB := H.ne;have hcP : zj 49 w w' := zj.grown hg (H.hd.opn.grownT (by decide));have hcI : zj 3 w w' := zj.grown hg (H.hd.opn.grownT (by decide));have hd' : zbh w' (w0.heap.size + 2) a2 nl c2 Y2 a4 n4 c4 X' L O' := ⟨⟨H.hd.log.1.keptT hg (H.hd.opn.grownT (by decide)), fun y hy => (H.hd.log.2 y hy).calm hcP⟩, H.hd.says, h4, hO, fun x hx => ⟨(H.hd.op x (hs x hx)).1.calm hcP, (H.hd.op x (hs x hx)).2.calm hcI⟩⟩;exact ⟨(H.hb.keptNe hg (hne _ (by omega))).setOther (a := ⟨B, 3, U⟩) (by simp; omega) _, (H.rb.keptNe hg (hne _ (by omega))).setOther (a := ⟨B, 3, U⟩) (by simp; omega) _, o4.set 3 _, hd'.set o4 (by decide) (by decide) (by decide) (by decide) _, (H.bel.grown hg H.bel.size (fun k hk => by have := H.hd.opn.base _ hk; omega)).setCell (by simp; omega) _, hB⟩
end
theorem entersQ : zfc 30 := fun _ _ => rfl
theorem quit1_any (v0 v1 v3 : Value) (dec : Bool) (w : World) :
  Calls Try.prog 30 (#[.agg #[v0, v1, .bool dec, v3]] ++ #[]) w fun e w' => e = .returned (.bool (!dec)) ∧ Z w.heap.size w w' := by
 have hb0 := zi w (T #[v0, v1, .bool dec, v3] 38);show Calls Try.prog 30 #[.agg #[v0, v1, .bool dec, v3]] w _
 go_enter Try.func30, Try.ntmps30
 go_wp2;go_ret;exact ⟨rfl, hb0⟩
theorem zo0 (la oa : Option Addr) (nl lc no oc : Nat) (bt nx : Int) (L : List R3) (O : List O4) (Y : List XL) (X : List XO) (w : World) (H : zbk (fun _ => False) w la nl Y oa no X L O) (hf : zcd O) (hok : OkL L) (hl : L.length ≤ 400000) (hr : ∀ o ∈ O, zcb o.2.1) :
  Calls Try.prog 13 #[.agg #[G la nl lc, E J bt, E J nx, G oa no oc]] w fun e w' => ∃ v' sv, e = .returned (.tuple #[v', sv]) ∧ (∀ R : Nat → Prop, (∀ b, R b → b < w.heap.size) → zy R w' v' (zu ⟨L, bt, nx, O⟩).1) ∧ zm w' w.heap.size sv (zu ⟨L, bt, nx, O⟩).2 ∧ Z w.heap.size w w' := by
 have hb0 := za2 w (T #[G la nl lc, E J bt, E J nx, G oa no oc] 29) (T #[G U 0 0, E J 0, E J 0, G U 0 0] 29);have h0 : Blk ((w.alloc (T #[G la nl lc, E J bt, E J nx, G oa no oc] 29)).alloc (T #[G U 0 0, E J 0, E J 0, G U 0 0] 29)) w.heap.size #[G la nl lc, E J bt, E J nx, G oa no oc] 29 := (Blk.new _ _ _).alloc _;have hz0 : Blk ((w.alloc (T #[G la nl lc, E J bt, E J nx, G oa no oc] 29)).alloc (T #[G U 0 0, E J 0, E J 0, G U 0 0] 29)) (w.heap.size + 1) #[G U 0 0, E J 0, E J 0, G U 0 0] 29 := zaq _ _ _;have hs0 : ((w.alloc (T #[G la nl lc, E J bt, E J nx, G oa no oc] 29)).alloc (T #[G U 0 0, E J 0, E J 0, G U 0 0] 29)).heap.size = w.heap.size + 2 := by simp
 have hXO : X.length = O.length := by rw [← H.osays, List.length_map]
 have hnL : nl = L.length := by rw [← H.says, List.length_map]; exact H.ln
 have HG := zE (H.below hb0) hf hok hl hnL;have HW := zD hXO hf H.on H;have HRR := zA hr;have hno : no ≤ 100000 := by have h1 := hf.1; have h2 := H.on; omega
 clear H hf hok hl hXO hnL hr;go_enter Try.func13, Try.ntmps13
 go_upto_region 1 with fail
 generalize ((w.alloc (T #[G la nl lc, E J bt, E J nx, G oa no oc] 29)).alloc (T #[G U 0 0, E J 0, E J 0, G U 0 0] 29)) = V at *;obtain ⟨x0, x1, x2, x3⟩ := h0.cells4;have l0 := h0.lt;go_wp2_with fail
 refine (zio la oa nl lc no oc bt nx Y X L O V HG.out.1 HG.out.2.1 HG.out.2.2.1 (by have := HG.out.2.2.2.1; omega)).mono ?_;rintro e w2 ⟨_, rfl, ⟨a2, n2, c2, Y2, a3, n3, c3, X2, rfl, hO2⟩, jV⟩;have hn2 : n2 = nl := by rw [(hO2.log.1.at za4).2.1, HG.out.2.2.2.2, ← hO2.says, List.length_map]
 subst hn2
 have H1 : Q (zbv w la n2 lc bt nx oa no oc w2.heap.size a2 c2 Y2 L (w2.alloc (T #[G a2 n2 c2, E J bt, E J nx, G a3 n3 c3] 29)) a3 n3 c3 X2 O) := by
  have hbb := zi w2 (T #[G a2 n2 c2, E J bt, E J nx, G a3 n3 c3] 29);have hsz := jV.size;exact ⟨(h0.below jV h0.lt).below hbb (by omega), (hz0.below jV hz0.lt).below hbb (by omega), Blk.new _ _ _, (hO2.mono (by omega : w.heap.size + 2 ≤ V.heap.size)).below hbb, (hb0.trans (jV.mono hb0.size)).trans (hbb.mono (by omega)), by omega⟩
 clear hO2 jV hb0 hz0 h0 hs0 x0 x1 x2 x3 l0;go_upto_region 2 with fail
 obtain ⟨N7, hN7⟩ : ∃ N7, N7 = w2.heap.size := ⟨_, rfl⟩;rw [← hN7] at H1;generalize w2.alloc (T #[G a2 n2 c2, E J bt, E J nx, G a3 n3 c3] 29) = A at *;rw [← hN7];clear hN7;obtain ⟨nl, hnl'⟩ : ∃ nl, nl = n2 := ⟨_, rfl⟩;subst hnl';have x3 := H1.out.hb.cell 3;simp only [kaa, kab, kac] at x3
 have l0 := H1.out.hb.lt;go_wp2;clear x3 l0;go_loopw [5, 13] (fun v i w' => ∃ k : Nat, k ≤ no ∧ i = E J k ∧ Q (zbv w la nl lc bt nx oa no oc N7 a2 c2 Y2 L w' a3 n3 c3 X2 O ∧ zm w' w.heap.size v (((O.take k).filter fun o => !o.2.2.1).flatMap za9))) (fun _ i _ => no - (intOf i).toNat)
 case atStart => exact ⟨0, Nat.zero_le _, rfl, H1.out, by simp only [List.take_zero, List.filter_nil, List.flatMap_nil]; exact zm.nil _ _⟩
 case round =>
  obtain ⟨k, hk, rfl, hH⟩ := hrel;obtain ⟨hOS, hM⟩ := hH.out;by_cases hlt : k < no
  ·have hkX : k < X.length := by have := HW.out.2.2.1; omega
   have hkO : k < O.length := by have := HW.out.1; omega
   have hOk : O[k] = zz X[k] := by
    have : O = X.map zz := HW.out.2.2.2.osays.symm;subst this;rw [List.getElem_map]
   have hfk := HW.out.2.1.2 O[k] (kad hkO);have hrk := HRR.out O[k] (kad hkO);have hop := HW.out.2.2.2.oparts _ (kad hkX)
   have HE : Q (((O.take (k + 1)).filter fun o => !o.2.2.1).flatMap za9 = ((O.take k).filter fun o => !o.2.2.1).flatMap za9 ++ (if O[k].2.2.1 = true then [] else za9 O[k])) := by
    show _ = _
    rw [zax hkO, List.filter_append, List.flatMap_append];congr 1
    cases h : O[k].2.2.1 <;> simp [h]
   have hml : (((O.take k).filter fun o => !o.2.2.1).flatMap za9).length ≤ 300000 := by
    have h1 := zf6 zg3 ((O.take k).filter fun o => !o.2.2.1);have h2 : ((O.take k).filter fun o => !o.2.2.1).length ≤ (O.take k).length := List.length_filter_le _ _;rw [List.length_take] at h2;omega
   generalize ((O.take k).filter fun o => !o.2.2.1).flatMap za9 = ms at *;obtain ⟨jz, hZl, hO, hZ, hT⟩ := hM.len;obtain ⟨av, nv, cv, rfl⟩ := hO.slice zbw;obtain ⟨g, o, rfl, hg, d0, d1, d2, d3, hq⟩ := ((HW.out.2.2.2.below hOS.bel).opns.lies).get hkX;rw [hOk] at hfk hrk HE;generalize X[k] = x at *;obtain ⟨dd, ⟨⟨pa, pc⟩, l⟩, dec, ⟨ha, hc⟩, hd⟩ := x;simp only [zz] at d0 d1 d2 d3 hfk hop hrk HE
   obtain ⟨ln, hn, HLL⟩ : ∃ ln hn, Q (l.length = ln ∧ hd.length = hn) := ⟨_, _, rfl, rfl⟩;rw [HLL.out.1] at d1;rw [HLL.out.2] at d3;have HQ : Q (zal w pa l ∧ zcb l) := ⟨hop.1.1, hrk⟩;have H1 : Q (zbv w la nl lc bt nx (some ⟨g, o, U⟩) no oc N7 a2 c2 Y2 L (wr.alloc (T #[E J dd, G pa ln pc, .bool dec, G ha hn hc] 38)) a3 n3 c3 X2 O ∧ Blk (wr.alloc (T #[E J dd, G pa ln pc, .bool dec, G ha hn hc] 38)) wr.heap.size #[E J dd, G pa ln pc, .bool dec, G ha hn hc] 38 ∧ zd 43 4 zb4 (wr.alloc (T #[E J dd, G pa ln pc, .bool dec, G ha hn hc] 38)) w.heap.size (G av nv cv) jz ∧ (∀ x ∈ jz, zam w.heap.size (wr.alloc (T #[E J dd, G pa ln pc, .bool dec, G ha hn hc] 38)) x.2.2.2.1.1 x.2.2.2.2) ∧ jz.map zc6 = ms) := ⟨hOS.below (zi wr _), Blk.new _ _ _, hO.below (zi wr _) (Nat.le_refl _), fun x hx => (hT x hx).calm (zj.alloc _ _ _), hZ⟩;have hZ3 : jz.length ≤ 300000 := by omega
   go_upto_region 6 with fail
   clear d0 d1 d2 d3 hg hH hOS hM hO hZ hT hq hop hfk hOk hrk hkX hkO hml hZl;generalize wr.alloc (T #[E J dd, G pa ln pc, .bool dec, G ha hn hc] 38) = A at *;obtain ⟨b0, b1, b2, b3⟩ := H1.out.2.1.cells4;have lb := H1.out.2.1.lt
   cases dec with
   | true =>
    have HF : Q (zbv w la nl lc bt nx (some ⟨g, o, U⟩) no oc N7 a2 c2 Y2 L A a3 n3 c3 X2 O ∧ zm A w.heap.size (G av nv cv) ms) := ⟨H1.out.1, jz, H1.out.2.2.1, H1.out.2.2.2.2, H1.out.2.2.2.1⟩;go_wp2;go_roundw
    case rel => exact ⟨k + 1, by omega, by go_num, by rw [HE.out]; exact ⟨HF.out.1, by simpa using HF.out.2⟩⟩
    case measure => simp [intOf]; omega
   | false =>
    go_wp2_with fail
    clear b0 b1 b2 b3 lb;refine (zlk dd pa ln pc l false ha hn hc hd A HLL.out.1.symm HQ.out.2 (HQ.out.1.below H1.out.1.bel)).mono ?_;rintro e w2 ⟨v2, rfl, hM2, hb2⟩;have hml2 := zg3 (dd, l, false, hd);obtain ⟨zX, hUl, hU, hUs, hUT⟩ := hM2.len;obtain ⟨a9, n9, c9, rfl⟩ := hU.slice zbw;have hUr := hU.at zbw;have HU := zE hUs hUT hUr.2.1 hUr.1 hb2;have hU3 : zX.length ≤ 3 := by omega
    have hs2 := hb2.size;have hwA : w.heap.size + 2 ≤ A.heap.size := by have := H1.out.1.rb.lt; omega
    clear hM2 hU hUs hUT hUr hb2 hUl hml2;go_wp2_with (at_builtin; refine zbj zbw oneM Try.underlying24 zfm rfl (by decide) _ rfl _ _ rfl w.heap.size _ jz rfl (H1.out.2.2.1.below HU.out.2.2.2.2 (Nat.le_refl _)) a9 n9 c9 zX rfl HU.out.2.2.1 HU.out.2.2.2.1 (by unfold maxLen; omega) (by omega) (by omega) ?_; intro a8 n8 c8 w8 hown8 hn8 hgrow8 hat8; clear hn8 hat8)
    have hoA := H1.out.2.2.1.below HU.out.2.2.2.2 (Nat.le_refl _);have HF := zB ((H1.out.1.below HU.out.2.2.2.2).grownM hgrow8 hoA (Nat.le_refl _)) (zm.app H1.out.2.2.2.2 H1.out.2.2.2.1 (zj.below HU.out.2.2.2.2 (Nat.le_refl _)) hoA hgrow8 hown8 HU.out.1 (fun y hy => (HU.out.2.1 y hy).mono (by omega)));clear hoA hown8 hgrow8;go_wp2;go_roundw
    case rel => exact ⟨k + 1, by omega, by go_num, by rw [HE.out]; exact ⟨HF.out.1, by simpa using HF.out.2⟩⟩
    case measure => simp [intOf]; omega
  ·have hT : O.take k = O := List.take_of_length_le (by have h1 := HW.out.1; have h2 := HW.out.2.2.1; omega)
   rw [hT] at hM;have H1 := zB hOS hM;clear hH hOS hM hT;have r3 := H1.out.1.ob.cell 3;simp only [kaa, kab, kac] at r3
   have lo := H1.out.1.ob.lt;go_wp2_with fail
   refine (znl 30 #[] entersQ (fun x => !x.2.2.1) a3 X2 c3 n3 (w.heap.size + 2) wr (by have h1 := H1.out.1.hd.osays; have h2 := HW.out.2.1.1; rw [← h1, List.length_map] at h2; omega) H1.out.1.hd.opn (fun x _ w' _ => quit1_any _ _ _ _ w')).mono ?_;rintro e w4 ⟨n4, rfl, ho4, hg4⟩;have hX4 : (X2.filter fun x => !(!x.2.2.1)) = X2.filter fun x => x.2.2.1 := by congr 1; funext x; simp
   rw [hX4] at ho4;have o4 := H1.out.1.ob.keptT hg4 (H1.out.1.hd.opn.grownT (by decide))
   have H4 : Q (zbv w la nl lc bt nx oa no oc N7 a2 c2 Y2 L (r w4 ⟨N7, 3, U⟩ (G a3 n4 c3)) a3 n4 c3 (X2.filter fun x => x.2.2.1) (O.filter fun o => o.2.2.1) ∧ zm (r w4 ⟨N7, 3, U⟩ (G a3 n4 c3)) w.heap.size u5 (((O).filter fun o => !o.2.2.1).flatMap za9)) := by
    refine ⟨H1.out.1.del hg4 ho4 (fun x hx => (List.mem_filter.1 hx).1) ?_, ?_⟩
    ·rw [← H1.out.1.hd.osays, List.filter_map]; rfl
    ·obtain ⟨zX, z1, z2, z3⟩ := H1.out.2
     exact ⟨zX, (z1.keptT hg4 (H1.out.1.hd.opn.grownT (by decide))).setOther (a := ⟨N7, 3, U⟩) o4 (by decide) _, z2, fun x hx => ((z3 x hx).calm (zj.grown hg4 (H1.out.1.hd.opn.grownT (by decide)))).calm (zj.setCell (a := ⟨N7, 3, U⟩) o4 (by decide) _)⟩
   have p3 := o4.cell 3;have q3 := o4.free 3;have l4 := o4.lt;simp only [kaa, kab, kac] at p3
   clear ho4 hg4 hX4 r3 lo;go_upto_region 10 with fail
   clear p3 q3 l4 o4 H1;generalize (r w4 ⟨N7, 3, U⟩ (G a3 n4 c3)) = S4 at *;obtain ⟨r0, r1, r2, r3⟩ := H4.out.1.ob.cells4;obtain ⟨t0, t1, t2, t3⟩ := H4.out.1.rb.cells4;obtain ⟨y0, y1, y2, y3⟩ := H4.out.1.rb.free4;have lo := H4.out.1.ob.lt;have lr := H4.out.1.rb.lt;have z := H4.out.1.rb;have hk4 := zct z (G a2 nl c2) (E J bt) (E J nx) (G a3 n4 c3);obtain ⟨e0, e1, e2, e3⟩ := hk4.1.cells4;have hO : zbh ((((S4.setCell ⟨(w.heap.size + 1), 0, U⟩ (G a2 nl c2)).setCell ⟨(w.heap.size + 1), 1, U⟩ (E J bt)).setCell ⟨(w.heap.size + 1), 2, U⟩ (E J nx)).setCell ⟨(w.heap.size + 1), 3, U⟩ (G a3 n4 c3)) w.heap.size a2 nl c2 Y2 a3 n4 c3 (X2.filter fun x => x.2.2.1) L (O.filter fun o => o.2.2.1) := (((((H4.out.1.hd.mono (by omega : w.heap.size ≤ w.heap.size + 2)).set z (by decide) (by decide) (by decide) (by decide) _).set (z.set 0 _) (by decide) (by decide) (by decide) (by decide) _).set ((z.set 0 _).set 1 _) (by decide) (by decide) (by decide) (by decide) _).set (((z.set 0 _).set 1 _).set 2 _) (by decide) (by decide) (by decide) (by decide) _);have HF : Q ((∀ R : Nat → Prop, (∀ b, R b → b < w.heap.size) → zy R ((((S4.setCell ⟨(w.heap.size + 1), 0, U⟩ (G a2 nl c2)).setCell ⟨(w.heap.size + 1), 1, U⟩ (E J bt)).setCell ⟨(w.heap.size + 1), 2, U⟩ (E J nx)).setCell ⟨(w.heap.size + 1), 3, U⟩ (G a3 n4 c3)) (.agg #[G a2 nl c2, E J bt, E J nx, G a3 n4 c3]) (zu ⟨L, bt, nx, O⟩).1) ∧ zm ((((S4.setCell ⟨(w.heap.size + 1), 0, U⟩ (G a2 nl c2)).setCell ⟨(w.heap.size + 1), 1, U⟩ (E J bt)).setCell ⟨(w.heap.size + 1), 2, U⟩ (E J nx)).setCell ⟨(w.heap.size + 1), 3, U⟩ (G a3 n4 c3)) w.heap.size u5 (zu ⟨L, bt, nx, O⟩).2 ∧ Z w.heap.size w ((((S4.setCell ⟨(w.heap.size + 1), 0, U⟩ (G a2 nl c2)).setCell ⟨(w.heap.size + 1), 1, U⟩ (E J bt)).setCell ⟨(w.heap.size + 1), 2, U⟩ (E J nx)).setCell ⟨(w.heap.size + 1), 3, U⟩ (G a3 n4 c3))) := ⟨fun R hR => hO.v (g := ⟨L, bt, nx, O.filter fun o => o.2.2.1⟩) hR rfl rfl, H4.out.2.set4 z _ _ _ _, H4.out.1.bel.trans (hk4.2.below H4.out.1.bel.size (fun b hb => by omega))⟩
   clear z hk4 hO;go_wp2_with fail
   clear r0 r1 r2 r3 t0 t1 t2 t3 y0 y1 y2 y3 lo lr;generalize ((((S4.setCell ⟨(w.heap.size + 1), 0, U⟩ (G a2 nl c2)).setCell ⟨(w.heap.size + 1), 1, U⟩ (E J bt)).setCell ⟨(w.heap.size + 1), 2, U⟩ (E J nx)).setCell ⟨(w.heap.size + 1), 3, U⟩ (G a3 n4 c3)) = Z9 at *;refine bodyPost_ret (v := .tuple #[.agg #[G a2 nl c2, E J bt, E J nx, G a3 n4 c3], u5]) ?_ rfl ⟨_, _, rfl, HF.out.1, HF.out.2.1, HF.out.2.2⟩;simp [results, Try.results13, go_sem, e0, e1, e2, e3]
end Go.Proofs.Ytpcnlifmkhagkaa
