import Derived.Test.YtpcnlifmkhagkaaKAJ22
set_option maxRecDepth 20000
set_option maxHeartbeats 20000000
namespace Go.Proofs.Ytpcnlifmkhagkaa
open Go.RowKit
open Go.Value renaming slice → G, int → E
open Go.IntKind renaming i64 → J
open _root_.Option renaming none → U
open Go.Obj renaming cells → T
open Go.RowKit renaming Hid → Q, Below → Z
open Go.World renaming setCell → r
open _root_.List renaming getElem?_toArray → kaa, getElem?_cons_zero → kab, getElem?_cons_succ → kac, getElem_mem → kad, singleton_append → kae
attribute [local go_sem ↓] Go.wp_at_zero Go.wp_at_succ
theorem zow (la oa : Option Addr) (nl lc no oc : Nat) (bt nx : Int) (L : List R3) (O : List O4) (Y : List XL) (X : List XO) (md mh : Int) (ma : Option Addr) (mn mc : Nat) (ml : List P3) (w : World) (H : zbk (fun _ => False) w la nl Y oa no X L O) (hf : zcd O) (hok : OkL L) (hl : L.length ≤ 400000) (hex : ∃ o ∈ O, o.1 = md) (hr : ∀ o ∈ O, zcb o.2.1) :
  Calls Try.prog 9 #[.agg #[G la nl lc, E J bt, E J nx, G oa no oc], .agg #[E J 3, E J md, E J mh, G ma mn mc]] w fun e w' => ∃ v' sv, e = .returned (.tuple #[v', sv]) ∧ (∀ R : Nat → Prop, (∀ b, R b → b < w.heap.size) → zy R w' v' (zh ⟨L, bt, nx, O⟩ (3, md, mh, ml)).1) ∧ zm w' w.heap.size sv (zh ⟨L, bt, nx, O⟩ (3, md, mh, ml)).2 ∧ Z w.heap.size w w' := by
 have hb0 : Z w.heap.size w (((w.alloc (T #[G la nl lc, E J bt, E J nx, G oa no oc] 29)).alloc (T #[E J 3, E J md, E J mh, G ma mn mc] 43)).alloc (T #[G U 0 0, E J 0, E J 0, G U 0 0] 29)) := (za2 w (T #[G la nl lc, E J bt, E J nx, G oa no oc] 29) (T #[E J 3, E J md, E J mh, G ma mn mc] 43)).alloc (by simp; omega) _;have h0 : Blk (((w.alloc (T #[G la nl lc, E J bt, E J nx, G oa no oc] 29)).alloc (T #[E J 3, E J md, E J mh, G ma mn mc] 43)).alloc (T #[G U 0 0, E J 0, E J 0, G U 0 0] 29)) w.heap.size #[G la nl lc, E J bt, E J nx, G oa no oc] 29 := ((Blk.new _ _ _).alloc _).alloc _;have hm0 : Blk (((w.alloc (T #[G la nl lc, E J bt, E J nx, G oa no oc] 29)).alloc (T #[E J 3, E J md, E J mh, G ma mn mc] 43)).alloc (T #[G U 0 0, E J 0, E J 0, G U 0 0] 29)) (w.heap.size + 1) #[E J 3, E J md, E J mh, G ma mn mc] 43 := Blk.alloc (zaq _ _ _) _;have hs2 : ((w.alloc (T #[G la nl lc, E J bt, E J nx, G oa no oc] 29)).alloc (T #[E J 3, E J md, E J mh, G ma mn mc] 43)).heap.size = w.heap.size + 2 := by simp
 have hz0 : Blk (((w.alloc (T #[G la nl lc, E J bt, E J nx, G oa no oc] 29)).alloc (T #[E J 3, E J md, E J mh, G ma mn mc] 43)).alloc (T #[G U 0 0, E J 0, E J 0, G U 0 0] 29)) (w.heap.size + 2) #[G U 0 0, E J 0, E J 0, G U 0 0] 29 := by rw [← hs2]; exact Blk.new _ _ _
 have hs0 : (((w.alloc (T #[G la nl lc, E J bt, E J nx, G oa no oc] 29)).alloc (T #[E J 3, E J md, E J mh, G ma mn mc] 43)).alloc (T #[G U 0 0, E J 0, E J 0, G U 0 0] 29)).heap.size = w.heap.size + 3 := by simp
 have hnL : nl = L.length := by rw [← H.says, List.length_map]; exact H.ln
 have HG := zE (H.below hb0) hf hok hl hnL;clear H hf hok hl hnL hs2;go_enter Try.func9, Try.ntmps9
 go_upto_region 1 with fail
 generalize (((w.alloc (T #[G la nl lc, E J bt, E J nx, G oa no oc] 29)).alloc (T #[E J 3, E J md, E J mh, G ma mn mc] 43)).alloc (T #[G U 0 0, E J 0, E J 0, G U 0 0] 29)) = V at *;obtain ⟨x0, x1, x2, x3⟩ := h0.cells4;have l0 := h0.lt;go_wp2_with fail
 refine (zgd la oa nl lc no oc bt nx Y X L O V HG.out.1 HG.out.2.1 HG.out.2.2.1 (by have := HG.out.2.2.2.1; omega)).mono ?_;rintro e w2 ⟨_, rfl, ⟨a2, n2, c2, Y2, a3, n3, c3, X2, rfl, hO2, hE2⟩, jV⟩;have hn2 : n2 = nl := by rw [(hO2.log.1.at za4).2.1, HG.out.2.2.2.2, ← hO2.says, List.length_map]
 subst hn2
 have H1 : Q (HrS w 3 md mh (G ma mn mc) bt nx w2.heap.size (w2.alloc (T #[G a2 n2 c2, E J bt, E J nx, G a3 n3 c3] 29)) a2 n2 c2 Y2 L a3 n3 c3 X2 O) := by
  have hbb := zi w2 (T #[G a2 n2 c2, E J bt, E J nx, G a3 n3 c3] 29);have hsz := jV.size;exact ⟨(hm0.below jV hm0.lt).below hbb (by omega), (hz0.below jV hz0.lt).below hbb (by omega), Blk.new _ _ _, (hO2.mono (by omega : w.heap.size + 3 ≤ V.heap.size)).below hbb, (hE2.mono (by omega : w.heap.size + 3 ≤ V.heap.size)).below hbb, (hb0.trans (jV.mono hb0.size)).trans (hbb.mono (by omega)), by omega⟩
 clear hO2 hE2 jV hb0 hz0 hm0 h0 hs0 x0 x1 x2 x3 l0;go_upto_region 3 with fail
 obtain ⟨N7, hN7⟩ : ∃ N7, N7 = w2.heap.size := ⟨_, rfl⟩;rw [← hN7] at H1;generalize w2.alloc (T #[G a2 n2 c2, E J bt, E J nx, G a3 n3 c3] 29) = A at *;rw [← hN7];clear hN7;obtain ⟨nl, hnl'⟩ : ∃ nl, nl = n2 := ⟨_, rfl⟩;subst hnl';have x3 := H1.out.ob.cell 3;simp only [kaa, kab, kac] at x3
 have l0 := H1.out.ob.lt;have hn3 : Q (n3 = X2.length ∧ X2.length ≤ 100000) := ⟨(H1.out.hd.opn.at zas).2.1, by have h1 := H1.out.hd.osays; have h2 := HG.out.2.1.1; rw [← h1, List.length_map] at h2; exact h2⟩;go_wp2_with fail
 refine (zga 21 #[.pointer (some ⟨w.heap.size + 1, 0, U⟩)] zgl (fun x => x.1 == md) a3 X2 c3 n3 A hn3.out.1 (by have := hn3.out.2; omega) (H1.out.hd.opn.at zas).1 (fun x _ w' hb => zgk (w.heap.size + 1) 3 md mh x.1 (G ma mn mc) _ _ _ w' (H1.out.mb.below hb H1.out.mb.lt))).mono ?_;rintro e w3 ⟨jj, rfl, hidx, hb3⟩;have HX := zA hidx;have H3 : Q (HrS w 3 md mh (G ma mn mc) bt nx N7 (w3.alloc (T #[E J jj] 3)) a2 nl c2 Y2 L a3 n3 c3 X2 O ∧ Blk (w3.alloc (T #[E J jj] 3)) w3.heap.size #[E J jj] 3) := ⟨(H1.out.below hb3).below (zi w3 _), Blk.new _ _ _⟩;clear hidx hb3 H1 x3 l0;go_upto_region 4 with fail
 generalize w3.alloc (T #[E J jj] 3) = D at *;have i0 := H3.out.2.cell 0;simp only [kaa, kab] at i0
 have li := H3.out.2.lt
 obtain ⟨i, hi, hri, hdi, hlow⟩ : ∃ (i : Nat) (hi : i < X2.length), jj = i ∧ X2[i].1 = md ∧ ∀ j (hj : j < X2.length), j < i → X2[j].1 ≠ md := by
  rcases HX.out with ⟨_, h⟩ | ⟨i, hi, h1, h2, h3⟩
  ·exfalso
   obtain ⟨o, ho, hod⟩ := hex;rw [← H3.out.1.hd.osays] at ho;obtain ⟨x, hx, rfl⟩ := List.mem_map.1 ho;have h2 := h x hx;simp [zz] at h2 hod
   exact h2 hod
  ·exact ⟨i, hi, h1, by simpa using h2, fun j hj hji => by simpa using h3 j hj hji⟩
 subst hri;have hiO : i < O.length := by have h1 := H3.out.1.hd.osays; rw [← h1, List.length_map]; exact hi
 have hOi : O[i] = zz X2[i] := by
  have : O = X2.map zz := H3.out.1.hd.osays.symm;subst this;rw [List.getElem_map]
 have HH : Q (zbx (3, md, mh, ml) O = some (O.take i ++ ((zq (3, md, mh, ml) (zz X2[i])).1.toList ++ O.drop (i + 1)), (zq (3, md, mh, ml) (zz X2[i])).2.1, (zq (3, md, mh, ml) (zz X2[i])).2.2) ∧ O = O.take i ++ (zz X2[i] :: O.drop (i + 1)) ∧ O.eraseIdx i = O.take i ++ O.drop (i + 1)) := by
  refine ⟨?_, by rw [← hOi, ← List.drop_eq_getElem_cons hiO, List.take_append_drop], List.eraseIdx_eq_take_drop_succ _ _⟩;rw [← hOi]
  exact zgn hiO (by rw [hOi]; exact hdi) (fun j hj hji => by
   have h1 := hlow j (by have h1 := H3.out.1.hd.osays; rw [← h1, List.length_map] at hj; exact hj) hji
   have h2 : O[j] = zz (X2[j]'(by have h1 := H3.out.1.hd.osays; rw [← h1, List.length_map] at hj; exact hj)) := by
    have : O = X2.map zz := H3.out.1.hd.osays.symm;subst this;rw [List.getElem_map]
   rw [h2]
   exact h1)
 have hro := hr O[i] (kad hiO);rw [hOi] at hro
 obtain ⟨g, ha3⟩ : ∃ g, a3 = some ⟨g, 0, U⟩ := by
  rcases H3.out.1.hd.opn.2 with ⟨hv, h0⟩ | ⟨g, cap', cur, hv, _⟩
  ·exfalso; omega
  ·cases hv; exact ⟨g, rfl⟩
 subst ha3;obtain ⟨hgl, d0, d1, d2, d3⟩ := zew (H3.out.1.hd.opn.at zas).1 hi;simp only [Nat.zero_add] at d0 d1 d2 d3
 have hop := H3.out.1.hd.op _ (kad hi);have hin : i < n3 := by rw [hn3.out.1]; exact hi
 obtain ⟨x, hx⟩ : ∃ x, Q (X2[i] = x) := ⟨X2[i], by show _ = _; rfl⟩;rw [hx.out] at d0 d1 d2 d3 hop hro hdi;rw [hx.out] at HH;clear hex hlow hOi;obtain ⟨dd, ⟨⟨pa, pc⟩, l⟩, dec, ⟨ha, hc⟩, hd⟩ := x;simp only [zz] at d0 d1 d2 d3 hop hro hdi HH
 subst hdi;obtain ⟨ln, hn, HLL⟩ : ∃ ln hn, Q (l.length = ln ∧ hd.length = hn) := ⟨_, _, rfl, rfl⟩;rw [HLL.out.1] at d1;rw [HLL.out.2] at d3;have gi : decide ((i : Int) < 0) = false := decide_eq_false (by omega);have x3 := H3.out.1.ob.cell 3;simp only [kaa, kab, kac] at x3
 have m0 := H3.out.1.mb.cell 0;simp only [kaa, kab] at m0
 have lm := H3.out.1.mb.lt;have lx := H3.out.1.ob.lt
 cases dec with
 | true =>
  have HP : Q (zh ⟨L, bt, nx, O⟩ (3, dd, mh, ml) = (⟨L, bt, nx, O⟩, [])) := by
   show _ = _
   unfold zh
   simp only
   rw [HH.out.1, show zq (3, dd, mh, ml) (dd, l, true, hd) = (some (dd, l, true, hd), [], []) from zdr (fun h => absurd (show (3 : Int) = 2 from h.1) (by decide)) (fun h => by cases h.2) (fun h => absurd (show (3 : Int) = 6 from h.1) (by decide)) (fun h => absurd (show (3 : Int) = 7 from h.1) (by decide))];have h := HH.out.2.1;simp only [Option.toList_some, kae, List.append_nil]
   rw [← h]
  go_upto_region 26 with fail
  clear d0 d1 d2 d3 x3 m0 lm lx i0 li gi;obtain ⟨r0, r1, r2, r3⟩ := (H3.out.1).ob.cells4;obtain ⟨t0, t1, t2, t3⟩ := (H3.out.1).rb.cells4;obtain ⟨y0, y1, y2, y3⟩ := (H3.out.1).rb.free4;have lo := (H3.out.1).ob.lt;have lr := (H3.out.1).rb.lt;obtain ⟨p1, p2, p3⟩ := (H3.out.1).ret;obtain ⟨e0, e1, e2, e3⟩ := p3.cells4;have HF : Q ((∀ R : Nat → Prop, (∀ b, R b → b < w.heap.size) → zy R ((((D.setCell ⟨(w.heap.size + 2), 0, U⟩ (G a2 nl c2)).setCell ⟨(w.heap.size + 2), 1, U⟩ (E J bt)).setCell ⟨(w.heap.size + 2), 2, U⟩ (E J nx)).setCell ⟨(w.heap.size + 2), 3, U⟩ (G (some ⟨g, 0, U⟩) n3 c3)) (.agg #[G a2 nl c2, E J bt, E J nx, G (some ⟨g, 0, U⟩) n3 c3]) (zh ⟨L, bt, nx, O⟩ (3, dd, mh, ml)).1) ∧ zm ((((D.setCell ⟨(w.heap.size + 2), 0, U⟩ (G a2 nl c2)).setCell ⟨(w.heap.size + 2), 1, U⟩ (E J bt)).setCell ⟨(w.heap.size + 2), 2, U⟩ (E J nx)).setCell ⟨(w.heap.size + 2), 3, U⟩ (G (some ⟨g, 0, U⟩) n3 c3)) w.heap.size (G U 0 0) (zh ⟨L, bt, nx, O⟩ (3, dd, mh, ml)).2 ∧ Z w.heap.size w ((((D.setCell ⟨(w.heap.size + 2), 0, U⟩ (G a2 nl c2)).setCell ⟨(w.heap.size + 2), 1, U⟩ (E J bt)).setCell ⟨(w.heap.size + 2), 2, U⟩ (E J nx)).setCell ⟨(w.heap.size + 2), 3, U⟩ (G (some ⟨g, 0, U⟩) n3 c3))) := by rw [HP.out]; exact ⟨p1, zm.nil _ _, p2⟩
  clear p1 p2 p3;go_wp2_with fail
  clear r0 r1 r2 r3 t0 t1 t2 t3 y0 y1 y2 y3 lo lr;generalize ((((D.setCell ⟨(w.heap.size + 2), 0, U⟩ (G a2 nl c2)).setCell ⟨(w.heap.size + 2), 1, U⟩ (E J bt)).setCell ⟨(w.heap.size + 2), 2, U⟩ (E J nx)).setCell ⟨(w.heap.size + 2), 3, U⟩ (G (some ⟨g, 0, U⟩) n3 c3)) = Z9 at *;refine bodyPost_ret (v := .tuple #[.agg #[G a2 nl c2, E J bt, E J nx, G (some ⟨g, 0, U⟩) n3 c3], (G U 0 0)]) ?_ rfl ⟨_, _, rfl, HF.out.1, HF.out.2.1, HF.out.2.2⟩;simp [results, Try.results9, go_sem, e0, e1, e2, e3]
 | false =>
  have HP : Q (zh ⟨L, bt, nx, O⟩ (3, dd, mh, ml) = (⟨L, bt, nx, O.eraseIdx i⟩, za9 (dd, l, false, hd))) := by
   show _ = _
   unfold zh
   simp only
   rw [HH.out.1, show zq (3, dd, mh, ml) (dd, l, false, hd) = (U, [], za9 (dd, l, false, hd)) from step_no rfl rfl];simp only [Option.toList_none, List.nil_append, List.append_nil]
   rw [HH.out.2.2]
  go_upto_region 17 with fail
  go_wp2_with fail
  refine (zlk dd pa ln pc l false ha hn hc hd D HLL.out.1.symm hro hop.1.at).mono ?_;rintro e w4 ⟨v4, rfl, hM4, hb4⟩;have hbi := H3.out.2.below hb4 H3.out.2.lt;have H4 := zB (H3.out.1.below hb4) (hM4.mono H3.out.1.bel.size);clear hM4 hb4 d0 d1 d2 d3 x3 m0 lm lx i0 li gi;have hl2 := hn3.out.2;have x3' := (H4.out.1).ob.cell 3;simp only [kaa, kab, kac] at x3'
  have HEND := zku N7 w3.heap.size (w.heap.size + 3) i _ (some ⟨g, 0, U⟩) n3 c3 X2 w4 (H4.out.1).ob x3' hbi (H4.out.1).hd.opn hi hl2;clear x3';go_wp2_with fail
  refine HEND.mono ?_;rintro e w6 ⟨rfl, w5, a5, n5, c5, ho5, hk5, rfl⟩;have H6 := zA ((H4.out.1).del hk5 ho5)
  have hM6 : zm (r w5 ⟨N7, 3, U⟩ (G a5 n5 c5)) w.heap.size v4 (za9 (dd, l, false, hd)) := by
   obtain ⟨zX, z1, z2, z3⟩ := H4.out.2
   have hty : ∀ q, Value.ownBlock (G (some ⟨g, 0, U⟩) n3 c3) = some q → ∃ cs t', Blk w4 q cs t' ∧ t' = 38 := fun q hq => by
    obtain ⟨_, cs, hB⟩ := H4.out.1.hd.opn.blk hq;exact ⟨cs, _, hB, rfl⟩
   have hB5 := H4.out.1.ob.keep hk5 (fun e => by obtain ⟨_, cs, h⟩ := H4.out.1.hd.opn.blk e; exact absurd e (H4.out.1.hd.opn.neT H4.out.1.ob (by decide)));refine ⟨zX, (z1.keepK hk5 (fun b hb hq => ?_)).setOther (a := ⟨N7, 3, U⟩) hB5 (by decide) _, z2, fun x hx => ((z3 x hx).calm (zj.keep hk5 (fun b hb => ?_))).calm (zj.setCell (a := ⟨N7, 3, U⟩) hB5 (by decide) _)⟩
   ·obtain ⟨_, cs, hB⟩ := z1.blk hb
    exact absurd hq (H4.out.1.hd.opn.neT hB (by decide))
   ·obtain ⟨cs, t', hB, ht⟩ := hty b hb
    exact ⟨cs, t', hB, by rw [ht]; decide⟩
  clear ho5 hk5 hbi H4;go_upto_region 19 with fail
  generalize (r w5 ⟨N7, 3, U⟩ (G a5 n5 c5)) = w7 at *;obtain ⟨r0, r1, r2, r3⟩ := (H6.out).ob.cells4;obtain ⟨t0, t1, t2, t3⟩ := (H6.out).rb.cells4;obtain ⟨y0, y1, y2, y3⟩ := (H6.out).rb.free4;have lo := (H6.out).ob.lt;have lr := (H6.out).rb.lt;obtain ⟨p1, p2, p3⟩ := (H6.out).ret;obtain ⟨e0, e1, e2, e3⟩ := p3.cells4;have HF : Q ((∀ R : Nat → Prop, (∀ b, R b → b < w.heap.size) → zy R (r (r (r (r w7 ⟨(w.heap.size + 2), 0, U⟩ (G a2 nl c2)) ⟨(w.heap.size + 2), 1, U⟩ (E J bt)) ⟨(w.heap.size + 2), 2, U⟩ (E J nx)) ⟨(w.heap.size + 2), 3, U⟩ (G a5 n5 c5)) (.agg #[G a2 nl c2, E J bt, E J nx, G a5 n5 c5]) (zh ⟨L, bt, nx, O⟩ (3, dd, mh, ml)).1) ∧ zm (r (r (r (r w7 ⟨(w.heap.size + 2), 0, U⟩ (G a2 nl c2)) ⟨(w.heap.size + 2), 1, U⟩ (E J bt)) ⟨(w.heap.size + 2), 2, U⟩ (E J nx)) ⟨(w.heap.size + 2), 3, U⟩ (G a5 n5 c5)) w.heap.size v4 (zh ⟨L, bt, nx, O⟩ (3, dd, mh, ml)).2 ∧ Z w.heap.size w (r (r (r (r w7 ⟨(w.heap.size + 2), 0, U⟩ (G a2 nl c2)) ⟨(w.heap.size + 2), 1, U⟩ (E J bt)) ⟨(w.heap.size + 2), 2, U⟩ (E J nx)) ⟨(w.heap.size + 2), 3, U⟩ (G a5 n5 c5))) := by rw [HP.out]; exact ⟨p1, hM6.set4 H6.out.rb _ _ _ _, p2⟩
  clear p1 p2 p3;go_wp2_with fail
  clear r0 r1 r2 r3 t0 t1 t2 t3 y0 y1 y2 y3 lo lr;generalize (r (r (r (r w7 ⟨(w.heap.size + 2), 0, U⟩ (G a2 nl c2)) ⟨(w.heap.size + 2), 1, U⟩ (E J bt)) ⟨(w.heap.size + 2), 2, U⟩ (E J nx)) ⟨(w.heap.size + 2), 3, U⟩ (G a5 n5 c5)) = Z9 at *;refine bodyPost_ret (v := .tuple #[.agg #[G a2 nl c2, E J bt, E J nx, G a5 n5 c5], v4]) ?_ rfl ⟨_, _, rfl, HF.out.1, HF.out.2.1, HF.out.2.2⟩;simp [results, Try.results9, go_sem, e0, e1, e2, e3]
theorem zp2 (la oa : Option Addr) (nl lc no oc : Nat) (bt nx : Int) (L : List R3) (O : List O4) (Y : List XL) (X : List XO) (md mh : Int) (ma : Option Addr) (mn mc : Nat) (ml : List P3) (w : World) (H : zbk (fun _ => False) w la nl Y oa no X L O) (hf : zcd O) (hok : OkL L) (hl : L.length ≤ 400000) (hex : ∃ o ∈ O, o.1 = md) (hr : ∀ o ∈ O, zcb o.2.1) (hw : ∀ o ∈ O, o.2.2.2.Nodup ∧ (∀ k ∈ o.2.2.2, k ∈ zp o.2.1) ∧ o.2.2.2.length ≤ 1000) :
  Calls Try.prog 9 #[.agg #[G la nl lc, E J bt, E J nx, G oa no oc], .agg #[E J 6, E J md, E J mh, G ma mn mc]] w fun e w' => ∃ v' sv, e = .returned (.tuple #[v', sv]) ∧ (∀ R : Nat → Prop, (∀ b, R b → b < w.heap.size) → zy R w' v' (zh ⟨L, bt, nx, O⟩ (6, md, mh, ml)).1) ∧ zm w' w.heap.size sv (zh ⟨L, bt, nx, O⟩ (6, md, mh, ml)).2 ∧ Z w.heap.size w w' := by
 have hb0 : Z w.heap.size w (((w.alloc (T #[G la nl lc, E J bt, E J nx, G oa no oc] 29)).alloc (T #[E J 6, E J md, E J mh, G ma mn mc] 43)).alloc (T #[G U 0 0, E J 0, E J 0, G U 0 0] 29)) := (za2 w (T #[G la nl lc, E J bt, E J nx, G oa no oc] 29) (T #[E J 6, E J md, E J mh, G ma mn mc] 43)).alloc (by simp; omega) _;have h0 : Blk (((w.alloc (T #[G la nl lc, E J bt, E J nx, G oa no oc] 29)).alloc (T #[E J 6, E J md, E J mh, G ma mn mc] 43)).alloc (T #[G U 0 0, E J 0, E J 0, G U 0 0] 29)) w.heap.size #[G la nl lc, E J bt, E J nx, G oa no oc] 29 := ((Blk.new _ _ _).alloc _).alloc _;have hm0 : Blk (((w.alloc (T #[G la nl lc, E J bt, E J nx, G oa no oc] 29)).alloc (T #[E J 6, E J md, E J mh, G ma mn mc] 43)).alloc (T #[G U 0 0, E J 0, E J 0, G U 0 0] 29)) (w.heap.size + 1) #[E J 6, E J md, E J mh, G ma mn mc] 43 := Blk.alloc (zaq _ _ _) _;have hs2 : ((w.alloc (T #[G la nl lc, E J bt, E J nx, G oa no oc] 29)).alloc (T #[E J 6, E J md, E J mh, G ma mn mc] 43)).heap.size = w.heap.size + 2 := by simp
 have hz0 : Blk (((w.alloc (T #[G la nl lc, E J bt, E J nx, G oa no oc] 29)).alloc (T #[E J 6, E J md, E J mh, G ma mn mc] 43)).alloc (T #[G U 0 0, E J 0, E J 0, G U 0 0] 29)) (w.heap.size + 2) #[G U 0 0, E J 0, E J 0, G U 0 0] 29 := by rw [← hs2]; exact Blk.new _ _ _
 have hs0 : (((w.alloc (T #[G la nl lc, E J bt, E J nx, G oa no oc] 29)).alloc (T #[E J 6, E J md, E J mh, G ma mn mc] 43)).alloc (T #[G U 0 0, E J 0, E J 0, G U 0 0] 29)).heap.size = w.heap.size + 3 := by simp
 have hnL : nl = L.length := by rw [← H.says, List.length_map]; exact H.ln
 have HG := zE (H.below hb0) hf hok hl hnL;clear H hf hok hl hnL hs2;go_enter Try.func9, Try.ntmps9
 go_upto_region 1 with fail
 generalize (((w.alloc (T #[G la nl lc, E J bt, E J nx, G oa no oc] 29)).alloc (T #[E J 6, E J md, E J mh, G ma mn mc] 43)).alloc (T #[G U 0 0, E J 0, E J 0, G U 0 0] 29)) = V at *;obtain ⟨x0, x1, x2, x3⟩ := h0.cells4;have l0 := h0.lt;go_wp2_with fail
 refine (zgd la oa nl lc no oc bt nx Y X L O V HG.out.1 HG.out.2.1 HG.out.2.2.1 (by have := HG.out.2.2.2.1; omega)).mono ?_;rintro e w2 ⟨_, rfl, ⟨a2, n2, c2, Y2, a3, n3, c3, X2, rfl, hO2, hE2⟩, jV⟩;have hn2 : n2 = nl := by rw [(hO2.log.1.at za4).2.1, HG.out.2.2.2.2, ← hO2.says, List.length_map]
 subst hn2
 have H1 : Q (HrS w 6 md mh (G ma mn mc) bt nx w2.heap.size (w2.alloc (T #[G a2 n2 c2, E J bt, E J nx, G a3 n3 c3] 29)) a2 n2 c2 Y2 L a3 n3 c3 X2 O) := by
  have hbb := zi w2 (T #[G a2 n2 c2, E J bt, E J nx, G a3 n3 c3] 29);have hsz := jV.size;exact ⟨(hm0.below jV hm0.lt).below hbb (by omega), (hz0.below jV hz0.lt).below hbb (by omega), Blk.new _ _ _, (hO2.mono (by omega : w.heap.size + 3 ≤ V.heap.size)).below hbb, (hE2.mono (by omega : w.heap.size + 3 ≤ V.heap.size)).below hbb, (hb0.trans (jV.mono hb0.size)).trans (hbb.mono (by omega)), by omega⟩
 clear hO2 hE2 jV hb0 hz0 hm0 h0 hs0 x0 x1 x2 x3 l0;go_upto_region 3 with fail
 obtain ⟨N7, hN7⟩ : ∃ N7, N7 = w2.heap.size := ⟨_, rfl⟩;rw [← hN7] at H1;generalize w2.alloc (T #[G a2 n2 c2, E J bt, E J nx, G a3 n3 c3] 29) = A at *;rw [← hN7];clear hN7;obtain ⟨nl, hnl'⟩ : ∃ nl, nl = n2 := ⟨_, rfl⟩;subst hnl';have x3 := H1.out.ob.cell 3;simp only [kaa, kab, kac] at x3
 have l0 := H1.out.ob.lt;have hn3 : Q (n3 = X2.length ∧ X2.length ≤ 100000) := ⟨(H1.out.hd.opn.at zas).2.1, by have h1 := H1.out.hd.osays; have h2 := HG.out.2.1.1; rw [← h1, List.length_map] at h2; exact h2⟩;go_wp2_with fail
 refine (zga 21 #[.pointer (some ⟨w.heap.size + 1, 0, U⟩)] zgl (fun x => x.1 == md) a3 X2 c3 n3 A hn3.out.1 (by have := hn3.out.2; omega) (H1.out.hd.opn.at zas).1 (fun x _ w' hb => zgk (w.heap.size + 1) 6 md mh x.1 (G ma mn mc) _ _ _ w' (H1.out.mb.below hb H1.out.mb.lt))).mono ?_;rintro e w3 ⟨jj, rfl, hidx, hb3⟩;have HX := zA hidx
 have HLT : Q (∀ x ∈ X2, ∀ b, (hvO x).ownBlock = some b → b < w3.heap.size) := fun x hx b hb => by
  have h1 := H1.out.he.lt x hx b hb;have h2 := hb3.size;omega
 have H3 : Q (HrS w 6 md mh (G ma mn mc) bt nx N7 (w3.alloc (T #[E J jj] 3)) a2 nl c2 Y2 L a3 n3 c3 X2 O ∧ Blk (w3.alloc (T #[E J jj] 3)) w3.heap.size #[E J jj] 3) := ⟨(H1.out.below hb3).below (zi w3 _), Blk.new _ _ _⟩;clear hidx hb3 H1 x3 l0;go_upto_region 4 with fail
 generalize w3.alloc (T #[E J jj] 3) = D at *;have i0 := H3.out.2.cell 0;simp only [kaa, kab] at i0
 have li := H3.out.2.lt
 obtain ⟨i, hi, hri, hdi, hlow⟩ : ∃ (i : Nat) (hi : i < X2.length), jj = i ∧ X2[i].1 = md ∧ ∀ j (hj : j < X2.length), j < i → X2[j].1 ≠ md := by
  rcases HX.out with ⟨_, h⟩ | ⟨i, hi, h1, h2, h3⟩
  ·exfalso
   obtain ⟨o, ho, hod⟩ := hex;rw [← H3.out.1.hd.osays] at ho;obtain ⟨x, hx, rfl⟩ := List.mem_map.1 ho;have h2 := h x hx;simp [zz] at h2 hod
   exact h2 hod
  ·exact ⟨i, hi, h1, by simpa using h2, fun j hj hji => by simpa using h3 j hj hji⟩
 subst hri;have hiO : i < O.length := by have h1 := H3.out.1.hd.osays; rw [← h1, List.length_map]; exact hi
 have hOi : O[i] = zz X2[i] := by
  have : O = X2.map zz := H3.out.1.hd.osays.symm;subst this;rw [List.getElem_map]
 have HH : Q (zbx (6, md, mh, ml) O = some (O.take i ++ ((zq (6, md, mh, ml) (zz X2[i])).1.toList ++ O.drop (i + 1)), (zq (6, md, mh, ml) (zz X2[i])).2.1, (zq (6, md, mh, ml) (zz X2[i])).2.2) ∧ O = O.take i ++ (zz X2[i] :: O.drop (i + 1)) ∧ O.eraseIdx i = O.take i ++ O.drop (i + 1)) := by
  refine ⟨?_, by rw [← hOi, ← List.drop_eq_getElem_cons hiO, List.take_append_drop], List.eraseIdx_eq_take_drop_succ _ _⟩;rw [← hOi]
  exact zgn hiO (by rw [hOi]; exact hdi) (fun j hj hji => by
   have h1 := hlow j (by have h1 := H3.out.1.hd.osays; rw [← h1, List.length_map] at hj; exact hj) hji
   have h2 : O[j] = zz (X2[j]'(by have h1 := H3.out.1.hd.osays; rw [← h1, List.length_map] at hj; exact hj)) := by
    have : O = X2.map zz := H3.out.1.hd.osays.symm;subst this;rw [List.getElem_map]
   rw [h2]
   exact h1)
 have hro := hr O[i] (kad hiO);rw [hOi] at hro
 obtain ⟨g, ha3⟩ : ∃ g, a3 = some ⟨g, 0, U⟩ := by
  rcases H3.out.1.hd.opn.2 with ⟨hv, h0⟩ | ⟨g, cap', cur, hv, _⟩
  ·exfalso; omega
  ·cases hv; exact ⟨g, rfl⟩
 subst ha3;obtain ⟨hgl, d0, d1, d2, d3⟩ := zew (H3.out.1.hd.opn.at zas).1 hi;simp only [Nat.zero_add] at d0 d1 d2 d3
 have hop := H3.out.1.hd.op _ (kad hi);have hin : i < n3 := by rw [hn3.out.1]; exact hi
 obtain ⟨x, hx⟩ : ∃ x, Q (X2[i] = x) := ⟨X2[i], by show _ = _; rfl⟩;rw [hx.out] at d0 d1 d2 d3 hop hro hdi;rw [hx.out] at HH;clear hex hlow hOi;obtain ⟨dd, ⟨⟨pa, pc⟩, l⟩, dec, ⟨ha, hc⟩, hd⟩ := x;simp only [zz] at d0 d1 d2 d3 hop hro hdi HH
 subst hdi;obtain ⟨ln, hn, HLL⟩ : ∃ ln hn, Q (l.length = ln ∧ hd.length = hn) := ⟨_, _, rfl, rfl⟩;rw [HLL.out.1] at d1;rw [HLL.out.2] at d3;have gi : decide ((i : Int) < 0) = false := decide_eq_false (by omega);have x3 := H3.out.1.ob.cell 3;simp only [kaa, kab, kac] at x3
 have m0 := H3.out.1.mb.cell 0;simp only [kaa, kab] at m0
 have lm := H3.out.1.mb.lt;have lx := H3.out.1.ob.lt
 cases dec with
 | true =>
  have hwo := hw (zz X2[i]) (by have h := H3.out.1.hd.osays; rw [← h]; exact List.mem_map_of_mem (kad hi));rw [hx.out] at hwo;have HW : Q (hd.Nodup ∧ (∀ k ∈ hd, k ∈ zp l) ∧ hd.length ≤ 1000) := hwo;clear hwo hw
  have hO : zd 3 1 zv D (w.heap.size + 3) (G ha hn hc) hd := by
   have h := H3.out.1.he.own _ (kad hi);rw [hx.out] at h;rw [← HLL.out.2];exact h
  obtain ⟨gb, gcs, hG⟩ := H3.out.1.hd.opn.blk rfl;have HLAST := zmo g (i * 4) dd pa ln pc l true ha hn hc hd mh (w.heap.size + 3) D hgl d0 d1 d2 d3 (hG.free _) HLL.out.1.symm hro hop.1 hO (by have h1 := H3.out.1.ne; omega) (hO.neT hG (by decide)) HW.out.2.2 gcs hG;have m2 := H3.out.1.mb.cell 2;simp only [kaa, kab, kac] at m2
  go_upto_region 21 with fail
  go_wp2_with fail
  refine HLAST.mono ?_;rintro e w4 (⟨hc0, rfl, hb4⟩ | ⟨hc1, w5, w6, a9, n9, c9, rfl, hb5, hg6, ho6, hb7⟩)
  ·have HP : Q (zh ⟨L, bt, nx, O⟩ (6, dd, mh, ml) = (⟨L, bt, nx, O⟩, [])) := by
    show _ = _
    unfold zh
    simp only
    rw [HH.out.1, show zq (6, dd, mh, ml) (dd, l, true, hd) = (some (dd, l, true, hd), [], []) from zdr (fun h => absurd (show (6 : Int) = 2 from h.1) (by decide)) (fun h => absurd (show (6 : Int) = 3 from h.1) (by decide)) (fun h => by have h1 := h.2.2.1; have h2 := h.2.2.2; simp only at h1 h2; rw [zhy, h1, h2] at hc0; exact absurd hc0 (by decide)) (fun h => absurd (show (6 : Int) = 7 from h.1) (by decide))];have h := HH.out.2.1;simp only [Option.toList_some, kae, List.append_nil]
    rw [← h]
   have H4 := zA (H3.out.1.below hb4);clear hb4 d0 d1 d2 d3 x3 m0 lm lx i0 li gi hO hG HLAST m2;go_upto_region 26 with fail
   obtain ⟨r0, r1, r2, r3⟩ := (H4.out).ob.cells4;obtain ⟨t0, t1, t2, t3⟩ := (H4.out).rb.cells4;obtain ⟨y0, y1, y2, y3⟩ := (H4.out).rb.free4;have lo := (H4.out).ob.lt;have lr := (H4.out).rb.lt;obtain ⟨p1, p2, p3⟩ := (H4.out).ret;obtain ⟨e0, e1, e2, e3⟩ := p3.cells4;have HF : Q ((∀ R : Nat → Prop, (∀ b, R b → b < w.heap.size) → zy R (r (r (r (r w4 ⟨(w.heap.size + 2), 0, U⟩ (G a2 nl c2)) ⟨(w.heap.size + 2), 1, U⟩ (E J bt)) ⟨(w.heap.size + 2), 2, U⟩ (E J nx)) ⟨(w.heap.size + 2), 3, U⟩ (G (some ⟨g, 0, U⟩) n3 c3)) (.agg #[G a2 nl c2, E J bt, E J nx, G (some ⟨g, 0, U⟩) n3 c3]) (zh ⟨L, bt, nx, O⟩ (6, dd, mh, ml)).1) ∧ zm (r (r (r (r w4 ⟨(w.heap.size + 2), 0, U⟩ (G a2 nl c2)) ⟨(w.heap.size + 2), 1, U⟩ (E J bt)) ⟨(w.heap.size + 2), 2, U⟩ (E J nx)) ⟨(w.heap.size + 2), 3, U⟩ (G (some ⟨g, 0, U⟩) n3 c3)) w.heap.size (G U 0 0) (zh ⟨L, bt, nx, O⟩ (6, dd, mh, ml)).2 ∧ Z w.heap.size w (r (r (r (r w4 ⟨(w.heap.size + 2), 0, U⟩ (G a2 nl c2)) ⟨(w.heap.size + 2), 1, U⟩ (E J bt)) ⟨(w.heap.size + 2), 2, U⟩ (E J nx)) ⟨(w.heap.size + 2), 3, U⟩ (G (some ⟨g, 0, U⟩) n3 c3))) := by rw [HP.out]; exact ⟨p1, zm.nil _ _, p2⟩
   clear p1 p2 p3;go_wp2_with fail
   clear r0 r1 r2 r3 t0 t1 t2 t3 y0 y1 y2 y3 lo lr;generalize (r (r (r (r w4 ⟨(w.heap.size + 2), 0, U⟩ (G a2 nl c2)) ⟨(w.heap.size + 2), 1, U⟩ (E J bt)) ⟨(w.heap.size + 2), 2, U⟩ (E J nx)) ⟨(w.heap.size + 2), 3, U⟩ (G (some ⟨g, 0, U⟩) n3 c3)) = Z9 at *;refine bodyPost_ret (v := .tuple #[.agg #[G a2 nl c2, E J bt, E J nx, G (some ⟨g, 0, U⟩) n3 c3], (G U 0 0)]) ?_ rfl ⟨_, _, rfl, HF.out.1, HF.out.2.1, HF.out.2.2⟩;simp [results, Try.results9, go_sem, e0, e1, e2, e3]
  ·have H4 : Q (HrT w 6 dd mh (G ma mn mc) bt nx N7 w4 a2 nl c2 Y2 L (some ⟨g, 0, U⟩) n3 c3 (X2.set i (dd, ((pa, pc), l), true, ((a9, c9), hd ++ [mh]))) (O.set i (dd, l, true, hd ++ [mh]))) := by
    rw [← HLL.out.2] at hg6;exact (H3.out.1.heard hi hx.out hb5 hg6 ho6).below hb7
   have hin6 : inI (zp l) mh = true ∧ inI hd mh = false := by
    rw [zhy, Bool.and_eq_true, Bool.not_eq_true'] at hc1;exact hc1
   have hiff := zk1 HW.out.1 HW.out.2.1 (zci.1 hin6.1) (fun h => by rw [← zci, hin6.2] at h; cases h);have hi5 := H3.out.2.below hb5 H3.out.2.lt
   have hi6 := Blk.keptNe hg6 hi5 (fun e => by
    have h := HLT.out _ (kad hi) w3.heap.size (by rw [hx.out]; unfold hvO; simp only; rw [HLL.out.2]; exact e)
    omega)
   have hG6 := Blk.keptNe hg6 (hG.below hb5 hG.lt) (hO.neT hG (by decide));have hi7 := (zj.setCell (t := 3) (a := ⟨g, i * 4 + 3, U⟩) hG6 (by decide) (G a9 n9 c9)) _ _ hi6;have hbi := hi7.below hb7 hi7.lt;clear hi5 hi6 hi7 hG6 hb5 hg6 ho6 hb7 d0 d1 d2 d3 x3 m0 lm lx i0 li gi hO hG HLAST m2;by_cases hz : (wtO l (hd ++ [mh])).length = 0
   ·have hz' := decide_eq_true hz
    rw [hz']
    have HP : Q (zh ⟨L, bt, nx, O⟩ (6, dd, mh, ml) = (⟨L ++ [(6, dd, [])], bt, nx, (O.set i (dd, l, true, hd ++ [mh])).eraseIdx i⟩, [])) := by
     show _ = _
     unfold zh
     simp only
     rw [HH.out.1, show zq (6, dd, mh, ml) (dd, l, true, hd) = (U, [(6, dd, [])], []) from zl1 ⟨rfl, rfl, hin6⟩ (hiff.1 hz)];simp only [Option.toList_none, List.nil_append]
     rw [List.eraseIdx_set_eq, HH.out.2.2]
    clear hiff hz hz' hin6;have z0 := H4.out.ob.cell 0;simp only [kaa, kab] at z0
    have hY : Y2.length ≤ 900000 := by have h1 := H4.out.hd.says; have h2 := HG.out.2.2.2.1; rw [← h1, List.length_map] at h2; omega
    have HNOTE := zmy N7 (w.heap.size + 1) (w.heap.size + 3) _ a2 nl c2 Y2 6 dd mh 6 (G ma mn mc) U 0 0 [] w4 H4.out.ob z0 H4.out.mb H4.out.hd.log (by have h1 := H4.out.ob.lt; have h2 := H4.out.ne; omega) hY rfl (by simp) (Or.inl rfl);clear z0;go_upto_region 22 with fail
    go_wp2_with fail
    refine HNOTE.mono ?_;rintro e w9 ⟨rfl, w7, w8, a8, n8, c8, a7, c7, hb8, hp8, hg8, ho8, rfl⟩;have hN8 := Blk.keptNe hg8 (H4.out.ob.below hb8 H4.out.ob.lt) (H4.out.hd.log.1.neT H4.out.ob (by decide));have hbi9 := (zj.setCell (t := 3) (a := ⟨N7, 0, U⟩) hN8 (by decide) (G a8 n8 c8)) _ _ (Blk.keptNe hg8 (hbi.below hb8 hbi.lt) (H4.out.hd.log.1.neT hbi (by decide)));have H8 := zA (H4.out.note hb8 hp8 hg8 ho8 (by have h1 := H4.out.ob.lt; have h2 := H4.out.ne; omega));clear hN8 hbi H4 hb8 hp8 hg8 ho8 hY HNOTE;generalize (r w8 ⟨N7, 0, U⟩ (G a8 n8 c8)) = w9 at *;have x3' := H8.out.ob.cell 3;simp only [kaa, kab, kac] at x3'
    have HEND := zku N7 w3.heap.size (w.heap.size + 3) i _ (some ⟨g, 0, U⟩) n3 c3 _ w9 H8.out.ob x3' hbi9 H8.out.hd.opn (by rw [List.length_set]; exact hi) (by rw [List.length_set]; exact hn3.out.2);clear x3';go_upto_region 23 with fail
    go_wp2_with fail
    refine HEND.mono ?_;rintro e w6 ⟨rfl, w5, a5, n5, c5, ho5, hk5, rfl⟩;have H6 := H8.out.del hk5 ho5;have H6' : Q _ := H6;clear H6 ho5 hk5 H8 HEND hbi9;go_upto_region 26 with fail
    generalize (r w5 ⟨N7, 3, U⟩ (G a5 n5 c5)) = w7 at *;obtain ⟨r0, r1, r2, r3⟩ := (H6'.out).ob.cells4;obtain ⟨t0, t1, t2, t3⟩ := (H6'.out).rb.cells4;obtain ⟨y0, y1, y2, y3⟩ := (H6'.out).rb.free4;have lo := (H6'.out).ob.lt;have lr := (H6'.out).rb.lt;obtain ⟨p1, p2, p3⟩ := (H6'.out).ret;obtain ⟨e0, e1, e2, e3⟩ := p3.cells4;have HF : Q ((∀ R : Nat → Prop, (∀ b, R b → b < w.heap.size) → zy R (r (r (r (r w7 ⟨(w.heap.size + 2), 0, U⟩ (G a8 n8 c8)) ⟨(w.heap.size + 2), 1, U⟩ (E J bt)) ⟨(w.heap.size + 2), 2, U⟩ (E J nx)) ⟨(w.heap.size + 2), 3, U⟩ (G a5 n5 c5)) (.agg #[G a8 n8 c8, E J bt, E J nx, G a5 n5 c5]) (zh ⟨L, bt, nx, O⟩ (6, dd, mh, ml)).1) ∧ zm (r (r (r (r w7 ⟨(w.heap.size + 2), 0, U⟩ (G a8 n8 c8)) ⟨(w.heap.size + 2), 1, U⟩ (E J bt)) ⟨(w.heap.size + 2), 2, U⟩ (E J nx)) ⟨(w.heap.size + 2), 3, U⟩ (G a5 n5 c5)) w.heap.size (G U 0 0) (zh ⟨L, bt, nx, O⟩ (6, dd, mh, ml)).2 ∧ Z w.heap.size w (r (r (r (r w7 ⟨(w.heap.size + 2), 0, U⟩ (G a8 n8 c8)) ⟨(w.heap.size + 2), 1, U⟩ (E J bt)) ⟨(w.heap.size + 2), 2, U⟩ (E J nx)) ⟨(w.heap.size + 2), 3, U⟩ (G a5 n5 c5))) := by rw [HP.out]; exact ⟨p1, zm.nil _ _, p2⟩
    clear p1 p2 p3;go_wp2_with fail
    clear r0 r1 r2 r3 t0 t1 t2 t3 y0 y1 y2 y3 lo lr;generalize (r (r (r (r w7 ⟨(w.heap.size + 2), 0, U⟩ (G a8 n8 c8)) ⟨(w.heap.size + 2), 1, U⟩ (E J bt)) ⟨(w.heap.size + 2), 2, U⟩ (E J nx)) ⟨(w.heap.size + 2), 3, U⟩ (G a5 n5 c5)) = Z9 at *;refine bodyPost_ret (v := .tuple #[.agg #[G a8 n8 c8, E J bt, E J nx, G a5 n5 c5], (G U 0 0)]) ?_ rfl ⟨_, _, rfl, HF.out.1, HF.out.2.1, HF.out.2.2⟩;simp [results, Try.results9, go_sem, e0, e1, e2, e3]
   ·have hz' := decide_eq_false hz
    rw [hz']
    have HP : Q (zh ⟨L, bt, nx, O⟩ (6, dd, mh, ml) = (⟨L, bt, nx, O.set i (dd, l, true, hd ++ [mh])⟩, [])) := by
     show _ = _
     unfold zh
     simp only
     rw [HH.out.1, show zq (6, dd, mh, ml) (dd, l, true, hd) = (some (dd, l, true, hd ++ [mh]), [], []) from zj9 ⟨rfl, rfl, hin6⟩ (fun h => hz (hiff.2 h))];simp only [Option.toList_some, kae, List.append_nil]
     rw [List.set_eq_take_append_cons_drop, if_pos hiO]
    clear hiff hz hz' hin6;go_upto_region 26 with fail
    obtain ⟨r0, r1, r2, r3⟩ := (H4.out).ob.cells4;obtain ⟨t0, t1, t2, t3⟩ := (H4.out).rb.cells4;obtain ⟨y0, y1, y2, y3⟩ := (H4.out).rb.free4;have lo := (H4.out).ob.lt;have lr := (H4.out).rb.lt;obtain ⟨p1, p2, p3⟩ := (H4.out).ret;obtain ⟨e0, e1, e2, e3⟩ := p3.cells4;have HF : Q ((∀ R : Nat → Prop, (∀ b, R b → b < w.heap.size) → zy R (r (r (r (r w4 ⟨(w.heap.size + 2), 0, U⟩ (G a2 nl c2)) ⟨(w.heap.size + 2), 1, U⟩ (E J bt)) ⟨(w.heap.size + 2), 2, U⟩ (E J nx)) ⟨(w.heap.size + 2), 3, U⟩ (G (some ⟨g, 0, U⟩) n3 c3)) (.agg #[G a2 nl c2, E J bt, E J nx, G (some ⟨g, 0, U⟩) n3 c3]) (zh ⟨L, bt, nx, O⟩ (6, dd, mh, ml)).1) ∧ zm (r (r (r (r w4 ⟨(w.heap.size + 2), 0, U⟩ (G a2 nl c2)) ⟨(w.heap.size + 2), 1, U⟩ (E J bt)) ⟨(w.heap.size + 2), 2, U⟩ (E J nx)) ⟨(w.heap.size + 2), 3, U⟩ (G (some ⟨g, 0, U⟩) n3 c3)) w.heap.size (G U 0 0) (zh ⟨L, bt, nx, O⟩ (6, dd, mh, ml)).2 ∧ Z w.heap.size w (r (r (r (r w4 ⟨(w.heap.size + 2), 0, U⟩ (G a2 nl c2)) ⟨(w.heap.size + 2), 1, U⟩ (E J bt)) ⟨(w.heap.size + 2), 2, U⟩ (E J nx)) ⟨(w.heap.size + 2), 3, U⟩ (G (some ⟨g, 0, U⟩) n3 c3))) := by rw [HP.out]; exact ⟨p1, zm.nil _ _, p2⟩
    clear p1 p2 p3;go_wp2_with fail
    clear r0 r1 r2 r3 t0 t1 t2 t3 y0 y1 y2 y3 lo lr;generalize (r (r (r (r w4 ⟨(w.heap.size + 2), 0, U⟩ (G a2 nl c2)) ⟨(w.heap.size + 2), 1, U⟩ (E J bt)) ⟨(w.heap.size + 2), 2, U⟩ (E J nx)) ⟨(w.heap.size + 2), 3, U⟩ (G (some ⟨g, 0, U⟩) n3 c3)) = Z9 at *;refine bodyPost_ret (v := .tuple #[.agg #[G a2 nl c2, E J bt, E J nx, G (some ⟨g, 0, U⟩) n3 c3], (G U 0 0)]) ?_ rfl ⟨_, _, rfl, HF.out.1, HF.out.2.1, HF.out.2.2⟩;simp [results, Try.results9, go_sem, e0, e1, e2, e3]
 | false =>
  clear hw
  have HP : Q (zh ⟨L, bt, nx, O⟩ (6, dd, mh, ml) = (⟨L, bt, nx, O⟩, [])) := by
   show _ = _
   unfold zh
   simp only
   rw [HH.out.1, show zq (6, dd, mh, ml) (dd, l, false, hd) = (some (dd, l, false, hd), [], []) from zdr (fun h => absurd (show (6 : Int) = 2 from h.1) (by decide)) (fun h => absurd (show (6 : Int) = 3 from h.1) (by decide)) (fun h => by cases h.2.1) (fun h => absurd (show (6 : Int) = 7 from h.1) (by decide))];have h := HH.out.2.1;simp only [Option.toList_some, kae, List.append_nil]
   rw [← h]
  go_upto_region 26 with fail
  clear d0 d1 d2 d3 x3 m0 lm lx i0 li gi;obtain ⟨r0, r1, r2, r3⟩ := (H3.out.1).ob.cells4;obtain ⟨t0, t1, t2, t3⟩ := (H3.out.1).rb.cells4;obtain ⟨y0, y1, y2, y3⟩ := (H3.out.1).rb.free4;have lo := (H3.out.1).ob.lt;have lr := (H3.out.1).rb.lt;obtain ⟨p1, p2, p3⟩ := (H3.out.1).ret;obtain ⟨e0, e1, e2, e3⟩ := p3.cells4;have HF : Q ((∀ R : Nat → Prop, (∀ b, R b → b < w.heap.size) → zy R ((((D.setCell ⟨(w.heap.size + 2), 0, U⟩ (G a2 nl c2)).setCell ⟨(w.heap.size + 2), 1, U⟩ (E J bt)).setCell ⟨(w.heap.size + 2), 2, U⟩ (E J nx)).setCell ⟨(w.heap.size + 2), 3, U⟩ (G (some ⟨g, 0, U⟩) n3 c3)) (.agg #[G a2 nl c2, E J bt, E J nx, G (some ⟨g, 0, U⟩) n3 c3]) (zh ⟨L, bt, nx, O⟩ (6, dd, mh, ml)).1) ∧ zm ((((D.setCell ⟨(w.heap.size + 2), 0, U⟩ (G a2 nl c2)).setCell ⟨(w.heap.size + 2), 1, U⟩ (E J bt)).setCell ⟨(w.heap.size + 2), 2, U⟩ (E J nx)).setCell ⟨(w.heap.size + 2), 3, U⟩ (G (some ⟨g, 0, U⟩) n3 c3)) w.heap.size (G U 0 0) (zh ⟨L, bt, nx, O⟩ (6, dd, mh, ml)).2 ∧ Z w.heap.size w ((((D.setCell ⟨(w.heap.size + 2), 0, U⟩ (G a2 nl c2)).setCell ⟨(w.heap.size + 2), 1, U⟩ (E J bt)).setCell ⟨(w.heap.size + 2), 2, U⟩ (E J nx)).setCell ⟨(w.heap.size + 2), 3, U⟩ (G (some ⟨g, 0, U⟩) n3 c3))) := by rw [HP.out]; exact ⟨p1, zm.nil _ _, p2⟩
  clear p1 p2 p3;go_wp2_with fail
  clear r0 r1 r2 r3 t0 t1 t2 t3 y0 y1 y2 y3 lo lr;generalize ((((D.setCell ⟨(w.heap.size + 2), 0, U⟩ (G a2 nl c2)).setCell ⟨(w.heap.size + 2), 1, U⟩ (E J bt)).setCell ⟨(w.heap.size + 2), 2, U⟩ (E J nx)).setCell ⟨(w.heap.size + 2), 3, U⟩ (G (some ⟨g, 0, U⟩) n3 c3)) = Z9 at *;refine bodyPost_ret (v := .tuple #[.agg #[G a2 nl c2, E J bt, E J nx, G (some ⟨g, 0, U⟩) n3 c3], (G U 0 0)]) ?_ rfl ⟨_, _, rfl, HF.out.1, HF.out.2.1, HF.out.2.2⟩;simp [results, Try.results9, go_sem, e0, e1, e2, e3]
end Go.Proofs.Ytpcnlifmkhagkaa
