import Derived.Test.YtpcnlifmkhagkaaKAJ21
set_option maxRecDepth 20000
set_option maxHeartbeats 20000000
namespace Go.Proofs.Ytpcnlifmkhagkaa
open Go.RowKit
open Go.Value renaming slice → G, int → E
open Go.IntKind renaming i64 → J
open _root_.Option renaming none → U
open Go.Obj renaming cells → T
open Go.RowKit renaming Hid → Q, Below → Z
open Go.World renaming setCell → r
open Go.Value renaming ownBlock → kaa
open _root_.List renaming getElem_mem → kab, getElem?_toArray → kac, getElem?_cons_zero → kad, eraseIdx_eq_take_drop_succ → kae
attribute [local go_sem ↓] Go.wp_at_zero Go.wp_at_succ
theorem zqb (la oa : Option Addr) (nl lc no oc : Nat) (bt nx : Int) (L : List R3) (O : List O4) (Y : List XL) (X : List XO) (mk md mh : Int) (ma : Option Addr) (mn mc : Nat) (ml : List P3) (w : World) (H : zbk (fun _ => False) w la nl Y oa no X L O) (hf : zcd O) (hok : OkL L) (hl : L.length ≤ 400000) (hex : ∃ o ∈ O, o.1 = md) (hr : ∀ o ∈ O, zcb o.2.1) (k2 : ¬ mk = 2) (k3 : ¬ mk = 3) (k6 : ¬ mk = 6) (k7 : ¬ mk = 7) :
  Calls Try.prog 9 #[.agg #[G la nl lc, E J bt, E J nx, G oa no oc], .agg #[E J mk, E J md, E J mh, G ma mn mc]] w fun e w' => ∃ v' sv, e = .returned (.tuple #[v', sv]) ∧ (∀ R : Nat → Prop, (∀ b, R b → b < w.heap.size) → zy R w' v' (zh ⟨L, bt, nx, O⟩ (mk, md, mh, ml)).1) ∧ zm w' w.heap.size sv (zh ⟨L, bt, nx, O⟩ (mk, md, mh, ml)).2 ∧ Z w.heap.size w w' := by
 have hb0 : Z w.heap.size w (((w.alloc (T #[G la nl lc, E J bt, E J nx, G oa no oc] 29)).alloc (T #[E J mk, E J md, E J mh, G ma mn mc] 43)).alloc (T #[G U 0 0, E J 0, E J 0, G U 0 0] 29)) := (za2 w (T #[G la nl lc, E J bt, E J nx, G oa no oc] 29) (T #[E J mk, E J md, E J mh, G ma mn mc] 43)).alloc (by simp; omega) _;have h0 : Blk (((w.alloc (T #[G la nl lc, E J bt, E J nx, G oa no oc] 29)).alloc (T #[E J mk, E J md, E J mh, G ma mn mc] 43)).alloc (T #[G U 0 0, E J 0, E J 0, G U 0 0] 29)) w.heap.size #[G la nl lc, E J bt, E J nx, G oa no oc] 29 := ((Blk.new _ _ _).alloc _).alloc _;have hm0 : Blk (((w.alloc (T #[G la nl lc, E J bt, E J nx, G oa no oc] 29)).alloc (T #[E J mk, E J md, E J mh, G ma mn mc] 43)).alloc (T #[G U 0 0, E J 0, E J 0, G U 0 0] 29)) (w.heap.size + 1) #[E J mk, E J md, E J mh, G ma mn mc] 43 := Blk.alloc (zaq _ _ _) _;have hs2 : ((w.alloc (T #[G la nl lc, E J bt, E J nx, G oa no oc] 29)).alloc (T #[E J mk, E J md, E J mh, G ma mn mc] 43)).heap.size = w.heap.size + 2 := by simp
 have hz0 : Blk (((w.alloc (T #[G la nl lc, E J bt, E J nx, G oa no oc] 29)).alloc (T #[E J mk, E J md, E J mh, G ma mn mc] 43)).alloc (T #[G U 0 0, E J 0, E J 0, G U 0 0] 29)) (w.heap.size + 2) #[G U 0 0, E J 0, E J 0, G U 0 0] 29 := by rw [← hs2]; exact Blk.new _ _ _
 have hs0 : (((w.alloc (T #[G la nl lc, E J bt, E J nx, G oa no oc] 29)).alloc (T #[E J mk, E J md, E J mh, G ma mn mc] 43)).alloc (T #[G U 0 0, E J 0, E J 0, G U 0 0] 29)).heap.size = w.heap.size + 3 := by simp
 have hnL : nl = L.length := by rw [← H.says, List.length_map]; exact H.ln
 have HG := zE (H.below hb0) hf hok hl hnL;clear H hf hok hl hnL hs2;go_enter Try.func9, Try.ntmps9
 go_upto_region 1 with fail
 generalize (((w.alloc (T #[G la nl lc, E J bt, E J nx, G oa no oc] 29)).alloc (T #[E J mk, E J md, E J mh, G ma mn mc] 43)).alloc (T #[G U 0 0, E J 0, E J 0, G U 0 0] 29)) = V at *;obtain ⟨x0, x1, x2, x3⟩ := h0.cells4;have l0 := h0.lt;go_wp2_with fail
 refine (zgd la oa nl lc no oc bt nx Y X L O V HG.out.1 HG.out.2.1 HG.out.2.2.1 (by have := HG.out.2.2.2.1; omega)).mono ?_;rintro e w2 ⟨_, rfl, ⟨a2, n2, c2, Y2, a3, n3, c3, X2, rfl, hO2, hE2⟩, jV⟩;have hn2 : n2 = nl := by rw [(hO2.log.1.at za4).2.1, HG.out.2.2.2.2, ← hO2.says, List.length_map]
 subst hn2
 have H1 : Q (HrS w mk md mh (G ma mn mc) bt nx w2.heap.size (w2.alloc (T #[G a2 n2 c2, E J bt, E J nx, G a3 n3 c3] 29)) a2 n2 c2 Y2 L a3 n3 c3 X2 O) := by
  have hbb := zi w2 (T #[G a2 n2 c2, E J bt, E J nx, G a3 n3 c3] 29);have hsz := jV.size;exact ⟨(hm0.below jV hm0.lt).below hbb (by omega), (hz0.below jV hz0.lt).below hbb (by omega), Blk.new _ _ _, (hO2.mono (by omega : w.heap.size + 3 ≤ V.heap.size)).below hbb, (hE2.mono (by omega : w.heap.size + 3 ≤ V.heap.size)).below hbb, (hb0.trans (jV.mono hb0.size)).trans (hbb.mono (by omega)), by omega⟩
 clear hO2 hE2 jV hb0 hz0 hm0 h0 hs0 x0 x1 x2 x3 l0;go_upto_region 3 with fail
 obtain ⟨N7, hN7⟩ : ∃ N7, N7 = w2.heap.size := ⟨_, rfl⟩;rw [← hN7] at H1;generalize w2.alloc (T #[G a2 n2 c2, E J bt, E J nx, G a3 n3 c3] 29) = A at *;rw [← hN7];clear hN7;obtain ⟨nl, hnl'⟩ : ∃ nl, nl = n2 := ⟨_, rfl⟩;subst hnl';have x3 := H1.out.ob.cell 3;simp only [kac, kad, List.getElem?_cons_succ] at x3
 have l0 := H1.out.ob.lt;have hn3 : Q (n3 = X2.length ∧ X2.length ≤ 100000) := ⟨(H1.out.hd.opn.at zas).2.1, by have h1 := H1.out.hd.osays; have h2 := HG.out.2.1.1; rw [← h1, List.length_map] at h2; exact h2⟩;go_wp2_with fail
 refine (zga 21 #[.pointer (some ⟨w.heap.size + 1, 0, U⟩)] zgl (fun x => x.1 == md) a3 X2 c3 n3 A hn3.out.1 (by have := hn3.out.2; omega) (H1.out.hd.opn.at zas).1 (fun x _ w' hb => zgk (w.heap.size + 1) mk md mh x.1 (G ma mn mc) _ _ _ w' (H1.out.mb.below hb H1.out.mb.lt))).mono ?_;rintro e w3 ⟨jj, rfl, hidx, hb3⟩;have HX := zA hidx;have H3 : Q (HrS w mk md mh (G ma mn mc) bt nx N7 (w3.alloc (T #[E J jj] 3)) a2 nl c2 Y2 L a3 n3 c3 X2 O ∧ Blk (w3.alloc (T #[E J jj] 3)) w3.heap.size #[E J jj] 3) := ⟨(H1.out.below hb3).below (zi w3 _), Blk.new _ _ _⟩;clear hidx hb3 H1 x3 l0;go_upto_region 4 with fail
 generalize w3.alloc (T #[E J jj] 3) = D at *;have i0 := H3.out.2.cell 0;simp only [kac, kad] at i0
 have li := H3.out.2.lt
 obtain ⟨i, hi, hri, hdi, hlow⟩ : ∃ (i : Nat) (hi : i < X2.length), jj = i ∧ X2[i].1 = md ∧ ∀ j (hj : j < X2.length), j < i → X2[j].1 ≠ md := by
  rcases HX.out with ⟨_, h⟩ | ⟨i, hi, h1, h2, h3⟩
  ·exfalso
   obtain ⟨o, ho, hod⟩ := hex;rw [← H3.out.1.hd.osays] at ho;obtain ⟨x, hx, rfl⟩ := List.mem_map.1 ho;have h2 := h x hx;simp [zz] at h2 hod
   exact h2 hod
  ·exact ⟨i, hi, h1, by simpa using h2, fun j hj hji => by simpa using h3 j hj hji⟩
 subst hri;have hiO : i < O.length := by have h1 := H3.out.1.hd.osays; rw [← h1, List.length_map]; exact hi
 have hOi : O[i] = zz X2[i] := by
  have : O = X2.map zz := H3.out.1.hd.osays.symm;subst this;rw [List.getElem_map]
 have HH : Q (zbx (mk, md, mh, ml) O = some (O.take i ++ ((zq (mk, md, mh, ml) (zz X2[i])).1.toList ++ O.drop (i + 1)), (zq (mk, md, mh, ml) (zz X2[i])).2.1, (zq (mk, md, mh, ml) (zz X2[i])).2.2) ∧ O = O.take i ++ (zz X2[i] :: O.drop (i + 1)) ∧ O.eraseIdx i = O.take i ++ O.drop (i + 1)) := by
  refine ⟨?_, by rw [← hOi, ← List.drop_eq_getElem_cons hiO, List.take_append_drop], kae _ _⟩;rw [← hOi]
  exact zgn hiO (by rw [hOi]; exact hdi) (fun j hj hji => by
   have h1 := hlow j (by have h1 := H3.out.1.hd.osays; rw [← h1, List.length_map] at hj; exact hj) hji
   have h2 : O[j] = zz (X2[j]'(by have h1 := H3.out.1.hd.osays; rw [← h1, List.length_map] at hj; exact hj)) := by
    have : O = X2.map zz := H3.out.1.hd.osays.symm;subst this;rw [List.getElem_map]
   rw [h2]
   exact h1)
 have hro := hr O[i] (kab hiO);rw [hOi] at hro
 obtain ⟨g, ha3⟩ : ∃ g, a3 = some ⟨g, 0, U⟩ := by
  rcases H3.out.1.hd.opn.2 with ⟨hv, h0⟩ | ⟨g, cap', cur, hv, _⟩
  ·exfalso; omega
  ·cases hv; exact ⟨g, rfl⟩
 subst ha3;obtain ⟨hgl, d0, d1, d2, d3⟩ := zew (H3.out.1.hd.opn.at zas).1 hi;simp only [Nat.zero_add] at d0 d1 d2 d3
 have hop := H3.out.1.hd.op _ (kab hi);have hin : i < n3 := by rw [hn3.out.1]; exact hi
 obtain ⟨x, hx⟩ : ∃ x, Q (X2[i] = x) := ⟨X2[i], by show _ = _; rfl⟩;rw [hx.out] at d0 d1 d2 d3 hop hro hdi;rw [hx.out] at HH;clear hex hlow hOi;obtain ⟨dd, ⟨⟨pa, pc⟩, l⟩, dec, ⟨ha, hc⟩, hd⟩ := x;simp only [zz] at d0 d1 d2 d3 hop hro hdi HH
 subst hdi;obtain ⟨ln, hn, HLL⟩ : ∃ ln hn, Q (l.length = ln ∧ hd.length = hn) := ⟨_, _, rfl, rfl⟩;rw [HLL.out.1] at d1;rw [HLL.out.2] at d3;have gi : decide ((i : Int) < 0) = false := decide_eq_false (by omega);have x3 := H3.out.1.ob.cell 3;simp only [kac, kad, List.getElem?_cons_succ] at x3
 have m0 := H3.out.1.mb.cell 0;simp only [kac, kad] at m0
 have lm := H3.out.1.mb.lt;have lx := H3.out.1.ob.lt;have e2 : (mk == 2) = false := by simpa using k2
 have e3 : (mk == 3) = false := by simpa using k3
 have e6 : (mk == 6) = false := by simpa using k6
 have e7 : (mk == 7) = false := by simpa using k7
 cases dec with
 | true =>
  have HP : Q (zh ⟨L, bt, nx, O⟩ (mk, dd, mh, ml) = (⟨L, bt, nx, O⟩, [])) := by
   show _ = _
   unfold zh
   simp only
   rw [HH.out.1, show zq (mk, dd, mh, ml) (dd, l, true, hd) = (some (dd, l, true, hd), [], []) from zdr (fun h => k2 h.1) (fun h => k3 h.1) (fun h => k6 h.1) (fun h => k7 h.1)];have h := HH.out.2.1;simp only [Option.toList_some, List.singleton_append, List.append_nil]
   rw [← h]
  go_upto_region 26 with fail
  clear d0 d1 d2 d3 x3 m0 lm lx i0 li gi;obtain ⟨r0, r1, r2, r3⟩ := (H3.out.1).ob.cells4;obtain ⟨t0, t1, t2, t3⟩ := (H3.out.1).rb.cells4;obtain ⟨y0, y1, y2, y3⟩ := (H3.out.1).rb.free4;have lo := (H3.out.1).ob.lt;have lr := (H3.out.1).rb.lt;obtain ⟨p1, p2, p3⟩ := (H3.out.1).ret;obtain ⟨e0, e1, e2, e3⟩ := p3.cells4;have HF : Q ((∀ R : Nat → Prop, (∀ b, R b → b < w.heap.size) → zy R ((((D.setCell ⟨(w.heap.size + 2), 0, U⟩ (G a2 nl c2)).setCell ⟨(w.heap.size + 2), 1, U⟩ (E J bt)).setCell ⟨(w.heap.size + 2), 2, U⟩ (E J nx)).setCell ⟨(w.heap.size + 2), 3, U⟩ (G (some ⟨g, 0, U⟩) n3 c3)) (.agg #[G a2 nl c2, E J bt, E J nx, G (some ⟨g, 0, U⟩) n3 c3]) (zh ⟨L, bt, nx, O⟩ (mk, dd, mh, ml)).1) ∧ zm ((((D.setCell ⟨(w.heap.size + 2), 0, U⟩ (G a2 nl c2)).setCell ⟨(w.heap.size + 2), 1, U⟩ (E J bt)).setCell ⟨(w.heap.size + 2), 2, U⟩ (E J nx)).setCell ⟨(w.heap.size + 2), 3, U⟩ (G (some ⟨g, 0, U⟩) n3 c3)) w.heap.size (G U 0 0) (zh ⟨L, bt, nx, O⟩ (mk, dd, mh, ml)).2 ∧ Z w.heap.size w ((((D.setCell ⟨(w.heap.size + 2), 0, U⟩ (G a2 nl c2)).setCell ⟨(w.heap.size + 2), 1, U⟩ (E J bt)).setCell ⟨(w.heap.size + 2), 2, U⟩ (E J nx)).setCell ⟨(w.heap.size + 2), 3, U⟩ (G (some ⟨g, 0, U⟩) n3 c3))) := by rw [HP.out]; exact ⟨p1, zm.nil _ _, p2⟩
  clear p1 p2 p3;go_wp2_with fail
  clear r0 r1 r2 r3 t0 t1 t2 t3 y0 y1 y2 y3 lo lr;generalize ((((D.setCell ⟨(w.heap.size + 2), 0, U⟩ (G a2 nl c2)).setCell ⟨(w.heap.size + 2), 1, U⟩ (E J bt)).setCell ⟨(w.heap.size + 2), 2, U⟩ (E J nx)).setCell ⟨(w.heap.size + 2), 3, U⟩ (G (some ⟨g, 0, U⟩) n3 c3)) = Z9 at *;refine bodyPost_ret (v := .tuple #[.agg #[G a2 nl c2, E J bt, E J nx, G (some ⟨g, 0, U⟩) n3 c3], (G U 0 0)]) ?_ rfl ⟨_, _, rfl, HF.out.1, HF.out.2.1, HF.out.2.2⟩;simp [results, Try.results9, go_sem, e0, e1, e2, e3]
 | false =>
  have HP : Q (zh ⟨L, bt, nx, O⟩ (mk, dd, mh, ml) = (⟨L, bt, nx, O⟩, [])) := by
   show _ = _
   unfold zh
   simp only
   rw [HH.out.1, show zq (mk, dd, mh, ml) (dd, l, false, hd) = (some (dd, l, false, hd), [], []) from zdr (fun h => k2 h.1) (fun h => k3 h.1) (fun h => k6 h.1) (fun h => k7 h.1)];have h := HH.out.2.1;simp only [Option.toList_some, List.singleton_append, List.append_nil]
   rw [← h]
  go_upto_region 26 with fail
  clear d0 d1 d2 d3 x3 m0 lm lx i0 li gi;obtain ⟨r0, r1, r2, r3⟩ := (H3.out.1).ob.cells4;obtain ⟨t0, t1, t2, t3⟩ := (H3.out.1).rb.cells4;obtain ⟨y0, y1, y2, y3⟩ := (H3.out.1).rb.free4;have lo := (H3.out.1).ob.lt;have lr := (H3.out.1).rb.lt;obtain ⟨p1, p2, p3⟩ := (H3.out.1).ret;obtain ⟨e0, e1, e2, e3⟩ := p3.cells4;have HF : Q ((∀ R : Nat → Prop, (∀ b, R b → b < w.heap.size) → zy R ((((D.setCell ⟨(w.heap.size + 2), 0, U⟩ (G a2 nl c2)).setCell ⟨(w.heap.size + 2), 1, U⟩ (E J bt)).setCell ⟨(w.heap.size + 2), 2, U⟩ (E J nx)).setCell ⟨(w.heap.size + 2), 3, U⟩ (G (some ⟨g, 0, U⟩) n3 c3)) (.agg #[G a2 nl c2, E J bt, E J nx, G (some ⟨g, 0, U⟩) n3 c3]) (zh ⟨L, bt, nx, O⟩ (mk, dd, mh, ml)).1) ∧ zm ((((D.setCell ⟨(w.heap.size + 2), 0, U⟩ (G a2 nl c2)).setCell ⟨(w.heap.size + 2), 1, U⟩ (E J bt)).setCell ⟨(w.heap.size + 2), 2, U⟩ (E J nx)).setCell ⟨(w.heap.size + 2), 3, U⟩ (G (some ⟨g, 0, U⟩) n3 c3)) w.heap.size (G U 0 0) (zh ⟨L, bt, nx, O⟩ (mk, dd, mh, ml)).2 ∧ Z w.heap.size w ((((D.setCell ⟨(w.heap.size + 2), 0, U⟩ (G a2 nl c2)).setCell ⟨(w.heap.size + 2), 1, U⟩ (E J bt)).setCell ⟨(w.heap.size + 2), 2, U⟩ (E J nx)).setCell ⟨(w.heap.size + 2), 3, U⟩ (G (some ⟨g, 0, U⟩) n3 c3))) := by rw [HP.out]; exact ⟨p1, zm.nil _ _, p2⟩
  clear p1 p2 p3;go_wp2_with fail
  clear r0 r1 r2 r3 t0 t1 t2 t3 y0 y1 y2 y3 lo lr;generalize ((((D.setCell ⟨(w.heap.size + 2), 0, U⟩ (G a2 nl c2)).setCell ⟨(w.heap.size + 2), 1, U⟩ (E J bt)).setCell ⟨(w.heap.size + 2), 2, U⟩ (E J nx)).setCell ⟨(w.heap.size + 2), 3, U⟩ (G (some ⟨g, 0, U⟩) n3 c3)) = Z9 at *;refine bodyPost_ret (v := .tuple #[.agg #[G a2 nl c2, E J bt, E J nx, G (some ⟨g, 0, U⟩) n3 c3], (G U 0 0)]) ?_ rfl ⟨_, _, rfl, HF.out.1, HF.out.2.1, HF.out.2.2⟩;simp [results, Try.results9, go_sem, e0, e1, e2, e3]
theorem zmt {α : Type} {enc : α → List Value} (he : ∀ x, (enc x).length = 4) : ∀ (xs : List α) (i : Nat) (h : i < xs.length) (x : α) (j : Nat) (_ : j < 4) (u : Value), enc x = (enc xs[i]).set j u → (zx enc xs).set (i * 4 + j) u = zx enc (xs.set i x)
 | p :: t, 0, _, x, j, hj, u, hx => by
  have e : ∀ (y : α) (S : List α), zx enc (y :: S) = enc y ++ zx enc S := by intro y S; simp [zx]
  simp only [List.getElem_cons_zero] at hx
  rw [List.set_cons_zero, e, e, hx, Nat.zero_mul, Nat.zero_add, List.set_append_left _ _ (by rw [he]; exact hj)]
 | p :: t, i + 1, h, x, j, hj, u, hx => by
  have e : ∀ (y : α) (S : List α), zx enc (y :: S) = enc y ++ zx enc S := by intro y S; simp [zx]
  simp only [List.getElem_cons_succ] at hx
  have ih := zmt he t i (by simpa using h) x j hj u hx;rw [List.set_cons_succ, e, e, List.set_append_right _ _ (by rw [he]; omega), he, show (i + 1) * 4 + j - 4 = i * 4 + j by omega, ih]
theorem zd.put1 {α : Type} {e : TypeId} {enc : α → List Value} {w : World} {base : Nat} {xs : List α} {g cap n i j : Nat} (he : ∀ x, (enc x).length = 4) (h : zd e 4 enc w base (G (some ⟨g, 0, U⟩) n cap) xs) (hn : n = xs.length) (hi : i < xs.length) (hj : j < 4) {x : α} {u : Value} (hx : enc x = (enc xs[i]).set j u) :
  zd e 4 enc (r w ⟨g, i * 4 + j, U⟩ u) base (G (some ⟨g, 0, U⟩) n cap) (xs.set i x) := by
 subst hn;have h1 := (World.ownsRow.stored h (i * 4 + j) u).1;unfold zd
 rw [zmt he xs i hi x j hj u hx] at h1
 simpa using h1
structure HrT (w0 : World) (mk md mh : Int) (mv : Value) (bt nx : Int) (N7 : Nat) (w : World) (a2 : Option Addr) (n2 c2 : Nat) (Y2 : List XL) (L : List R3) (a3 : Option Addr) (n3 c3 : Nat) (X2 : List XO) (O : List O4) : Prop where
 mb : Blk w (w0.heap.size + 1) #[E J mk, E J md, E J mh, mv] 43
 rb : Blk w (w0.heap.size + 2) #[G U 0 0, E J 0, E J 0, G U 0 0] 29
 ob : Blk w N7 #[G a2 n2 c2, E J bt, E J nx, G a3 n3 c3] 29
 hd : zbh w (w0.heap.size + 3) a2 n2 c2 Y2 a3 n3 c3 X2 L O
 bel : Z w0.heap.size w0 w
 ne : w0.heap.size + 3 ≤ N7
section
variable {w0 w w' : World} {mk md mh : Int} {mv : Value} {bt nx : Int} {N7 : Nat} {a2 : Option Addr} {n2 c2 : Nat} {Y2 : List XL} {L : List R3} {a3 : Option Addr} {n3 c3 : Nat} {X2 : List XO} {O : List O4}
theorem HrT.below (H : HrT w0 mk md mh mv bt nx N7 w a2 n2 c2 Y2 L a3 n3 c3 X2 O) (hb : Z w.heap.size w w') : HrT w0 mk md mh mv bt nx N7 w' a2 n2 c2 Y2 L a3 n3 c3 X2 O :=
 ⟨H.mb.below hb H.mb.lt, H.rb.below hb H.rb.lt, H.ob.below hb H.ob.lt, H.hd.below hb, H.bel.trans (hb.mono H.bel.size), H.ne⟩
theorem HrS.heard {g : Nat} (H : HrS w0 mk md mh mv bt nx N7 w a2 n2 c2 Y2 L (some ⟨g, 0, U⟩) n3 c3 X2 O) {w1 w2 : World} {i : Nat} (hi : i < X2.length) {dd : Int} {pa : Option Addr} {pc : Nat} {l : List P3} {dec : Bool} {ha : Option Addr} {hc : Nat} {hd hd' : List Int} (hx : X2[i] = (dd, ((pa, pc), l), dec, ((ha, hc), hd))) {a' : Option Addr} {n' c' : Nat}
  (hb1 : Z w.heap.size w w1) (hg : w1.grownBy w2 (kaa (G ha hd.length hc))) (ho : zd 3 1 zv w2 (w0.heap.size + 3) (G a' n' c') hd') :
  HrT w0 mk md mh mv bt nx N7 (r w2 ⟨g, i * 4 + 3, U⟩ (G a' n' c')) a2 n2 c2 Y2 L (some ⟨g, 0, U⟩) n3 c3 (X2.set i (dd, ((pa, pc), l), dec, ((a', c'), hd'))) (O.set i (dd, l, dec, hd')) := by
 have h1 := H.below hb1
 have jx : zd 3 1 zv w1 (w0.heap.size + 3) (G ha hd.length hc) hd := by
  have h := h1.he.own _ (kab hi);rw [hx] at h;exact h
 have hT : ∀ (t : TypeId), t ≠ 3 → ∀ k, kaa (G ha hd.length hc) = some k → ∃ cs t', Blk w1 k cs t' ∧ t' ≠ t := fun t ht => jx.grownT (fun e => ht e.symm)
 have hcP : zj 49 w1 w2 := zj.grown hg (hT _ (by decide));have hcH : zj 29 w1 w2 := zj.grown hg (hT _ (by decide));have hcM : zj 43 w1 w2 := zj.grown hg (hT _ (by decide));have hcO : zj 38 w1 w2 := zj.grown hg (hT _ (by decide));have hopn := h1.hd.opn.keptT hg (hT _ (by decide));obtain ⟨gb, gcs, hG⟩ := hopn.blk rfl;have hn3 := (h1.hd.opn.at zas).2.1;have hn' := (ho.at zai).2.1;have hlog := (h1.hd.log.1.keptT hg (hT _ (by decide))).setOther (a := ⟨g, i * 4 + 3, U⟩) hG (by decide) (G a' n' c')
 have hhd : zbh (r w2 ⟨g, i * 4 + 3, U⟩ (G a' n' c')) (w0.heap.size + 3) a2 n2 c2 Y2 (some ⟨g, 0, U⟩) n3 c3 (X2.set i (dd, ((pa, pc), l), dec, ((a', c'), hd'))) L (O.set i (dd, l, dec, hd')) := by
  refine ⟨⟨hlog, fun y hy => ((h1.hd.log.2 y hy).calm hcP).calm (zj.setCell (a := ⟨g, i * 4 + 3, U⟩) hG (by decide) _)⟩, H.hd.says, hopn.put1 zas hn3 hi (by omega) ?_, ?_, fun x hxm => ?_⟩
  ·rw [hx]; simp only [zan, List.set_cons_succ, List.set_cons_zero, ← hn']
  ·rw [List.map_set, H.hd.osays]; rfl
  ·obtain ⟨j, hj, rfl⟩ := List.mem_iff_getElem.1 hxm
   rw [List.length_set] at hj;rw [List.getElem_set];by_cases hij : i = j
   ·rw [if_pos hij]
    have hp := (h1.hd.op _ (kab hi)).1;rw [hx] at hp;refine ⟨(hp.calm hcP).calm (zj.setCell (a := ⟨g, i * 4 + 3, U⟩) hG (by decide) _), ?_⟩;exact (ho.intsT).calm (zj.setCell (a := ⟨g, i * 4 + 3, U⟩) hG (by decide) _)
   ·rw [if_neg hij]
    refine ⟨((h1.hd.op _ (kab hj)).1.calm hcP).calm (zj.setCell (a := ⟨g, i * 4 + 3, U⟩) hG (by decide) _), ?_⟩;have hj1 := h1.he.own _ (kab hj);have hpw := List.pairwise_iff_getElem.1 h1.he.ne
    have hne : (hvO X2[j]).ownBlock = U ∨ (hvO X2[j]).ownBlock ≠ kaa (G ha hd.length hc) := by
     have hvi : hvO X2[i] = G ha hd.length hc := by rw [hx]; rfl
     rw [← hvi]
     cases hb : (hvO X2[j]).ownBlock with
     | none => exact Or.inl rfl
     | some b =>
      refine Or.inr (fun e => ?_);rcases Nat.lt_or_gt_of_ne hij with h | h
      ·exact hpw i j hi hj h b e.symm hb
      ·exact hpw j i hj hi h b hb e.symm
    have h2 := hj1.kept hg hne;unfold hvO at h2
    exact (h2.intsT).calm (zj.setCell (a := ⟨g, i * 4 + 3, U⟩) hG (by decide) _)
 have hob := hcH _ _ h1.ob;have hlt := hG.lt;have hgl : w0.heap.size + 3 ≤ g := gb
 refine ⟨(hcM _ _ h1.mb).setOther (a := ⟨g, i * 4 + 3, U⟩) (by simp; omega) _, (hcH _ _ h1.rb).setOther (a := ⟨g, i * 4 + 3, U⟩) (by simp; omega) _, hob.setOther (a := ⟨g, i * 4 + 3, U⟩) (fun e => by
  simp only at e
  have := hob;rw [e] at this;unfold Blk at this hG
  rw [this] at hG;injection hG with hG
  injection hG with _ h
  exact absurd h (by decide)) _, hhd, ?_, H.ne⟩
 have hb2 := h1.bel.grown hg h1.bel.size (fun k hk => by have := (jx.blk hk).1; omega);exact hb2.setCell (by simp; omega) _
theorem HrT.put {g : Nat} (H : HrT w0 mk md mh mv bt nx N7 w a2 n2 c2 Y2 L (some ⟨g, 0, U⟩) n3 c3 X2 O) {i j : Nat} (hi : i < X2.length) (hj : j < 4) {x : XO} {u : Value} (hx : zan x = (zan X2[i]).set j u) (hp : zam (w0.heap.size + 3) w x.2.1.1.1 x.2.1.2) (hq : zd1 (w0.heap.size + 3) w x.2.2.2.1.1 x.2.2.2.2) :
  HrT w0 mk md mh mv bt nx N7 (r w ⟨g, i * 4 + j, U⟩ u) a2 n2 c2 Y2 L (some ⟨g, 0, U⟩) n3 c3 (X2.set i x) (O.set i (zz x)) := by
 obtain ⟨gb, gcs, hG⟩ := H.hd.opn.blk rfl;have hgl : w0.heap.size + 3 ≤ g := gb;have hn3 := (H.hd.opn.at zas).2.1;have hC : ∀ (t : TypeId), 38 ≠ t → zj t w (r w ⟨g, i * 4 + j, U⟩ u) := fun t ht => zj.setCell (a := ⟨g, i * 4 + j, U⟩) hG ht _
 have hhd : zbh (r w ⟨g, i * 4 + j, U⟩ u) (w0.heap.size + 3) a2 n2 c2 Y2 (some ⟨g, 0, U⟩) n3 c3 (X2.set i x) L (O.set i (zz x)) := by
  refine ⟨⟨H.hd.log.1.setOther (a := ⟨g, i * 4 + j, U⟩) hG (by decide) _, fun y hy => (H.hd.log.2 y hy).calm (hC _ (by decide))⟩, H.hd.says, H.hd.opn.put1 zas hn3 hi hj hx, by rw [List.map_set, H.hd.osays], fun z hz => ?_⟩;rcases List.mem_or_eq_of_mem_set hz with hz | rfl
  ·exact ⟨(H.hd.op _ hz).1.calm (hC _ (by decide)), (H.hd.op _ hz).2.calm (hC _ (by decide))⟩
  ·exact ⟨hp.calm (hC _ (by decide)), hq.calm (hC _ (by decide))⟩
 exact ⟨hC _ (by decide) _ _ H.mb, hC _ (by decide) _ _ H.rb, hC _ (by decide) _ _ H.ob, hhd, H.bel.setCell (by simp; omega) _, H.ne⟩
theorem HrT.note (H : HrT w0 mk md mh mv bt nx N7 w a2 n2 c2 Y2 L a3 n3 c3 X2 O) {w1 w2 : World} {k kd : Int} {l : List P3} {a5 : Option Addr} {c5 : Nat} {a' : Option Addr} {n' c' : Nat} (hb1 : Z w.heap.size w w1) (hp : zam w.heap.size w1 a5 l) (hg : w1.grownBy w2 (kaa (G a2 n2 c2))) (ho : zd 68 3 zaj w2 (w0.heap.size + 3) (G a' n' c') (Y2 ++ [(k, kd, (a5, c5), l)])) (hsz : w0.heap.size + 3 ≤ w.heap.size) :
  HrT w0 mk md mh mv bt nx N7 (r w2 ⟨N7, 0, U⟩ (G a' n' c')) a' n' c' (Y2 ++ [(k, kd, (a5, c5), l)]) (L ++ [(k, kd, l)]) a3 n3 c3 X2 O := by
 have h1 := H.below hb1;have hT : ∀ (t : TypeId), t ≠ 68 → ∀ q, kaa (G a2 n2 c2) = some q → ∃ cs t', Blk w1 q cs t' ∧ t' ≠ t := fun t ht => h1.hd.log.1.grownT (fun e => ht e.symm)
 have hcP : zj 49 w1 w2 := zj.grown hg (hT _ (by decide));have hcI : zj 3 w1 w2 := zj.grown hg (hT _ (by decide));have hcH : zj 29 w1 w2 := zj.grown hg (hT _ (by decide));have hcM : zj 43 w1 w2 := zj.grown hg (hT _ (by decide));have hob := hcH _ _ h1.ob
 have hhd : zbh w2 (w0.heap.size + 3) a' n' c' (Y2 ++ [(k, kd, (a5, c5), l)]) a3 n3 c3 X2 (L ++ [(k, kd, l)]) O := by
  refine ⟨⟨ho, fun y hy => ?_⟩, by rw [List.map_append, H.hd.says]; rfl, h1.hd.opn.keptT hg (hT _ (by decide)), H.hd.osays, fun x hx => ⟨(h1.hd.op x hx).1.calm hcP, (h1.hd.op x hx).2.calm hcI⟩⟩;rcases List.mem_append.1 hy with hy | hy
  ·exact (h1.hd.log.2 y hy).calm hcP
  ·rw [List.mem_singleton.1 hy]; exact (hp.mono hsz).calm hcP
 have hne := H.ne;have hb2 := h1.bel.grown hg h1.bel.size (fun q hq => by have := (h1.hd.log.1.blk hq).1; omega);exact ⟨(hcM _ _ h1.mb).setOther (a := ⟨N7, 0, U⟩) (by simp; omega) _, (hcH _ _ h1.rb).setOther (a := ⟨N7, 0, U⟩) (by simp; omega) _, hob.set 0 _, hhd.set hob (by decide) (by decide) (by decide) (by decide) _, hb2.setCell (by simp; omega) _, hne⟩
theorem HrT.del (H : HrT w0 mk md mh mv bt nx N7 w a2 n2 c2 Y2 L a3 n3 c3 X2 O) {w5 : World} {i : Nat} (hk : zg (fun q => kaa (G a3 n3 c3) = some q) w w5) {a5 : Option Addr} {n5 c5 : Nat} (ho : zd 38 4 zan w5 (w0.heap.size + 3) (G a5 n5 c5) (X2.eraseIdx i)) :
  HrT w0 mk md mh mv bt nx N7 (r w5 ⟨N7, 3, U⟩ (G a5 n5 c5)) a2 n2 c2 Y2 L a5 n5 c5 (X2.eraseIdx i) (O.eraseIdx i) := by
 have hT : ∀ (t : TypeId), t ≠ 38 → ∀ b, kaa (G a3 n3 c3) = some b → ∃ cs t', Blk w b cs t' ∧ t' ≠ t := fun t ht b hb => by
  obtain ⟨_, cs, hB⟩ := H.hd.opn.blk hb;exact ⟨cs, _, hB, fun e => ht e.symm⟩
 have hcP : zj 49 w w5 := zj.keep hk (hT _ (by decide));have hcI : zj 3 w w5 := zj.keep hk (hT _ (by decide));have hcH : zj 29 w w5 := zj.keep hk (hT _ (by decide));have hcM : zj 43 w w5 := zj.keep hk (hT _ (by decide));have o5 := hcH _ _ H.ob;have hne := H.ne
 have hlog : zd 68 3 zaj w5 (w0.heap.size + 3) (G a2 n2 c2) Y2 := H.hd.log.1.keepK hk (fun b hb hq => by
  obtain ⟨_, cs, hB⟩ := H.hd.log.1.blk hb
  exact absurd hq (H.hd.opn.neT hB (by decide)))
 have hd5 : zbh w5 (w0.heap.size + 3) a2 n2 c2 Y2 a5 n5 c5 (X2.eraseIdx i) L (O.eraseIdx i) := ⟨⟨hlog, fun y hy => (H.hd.log.2 y hy).calm hcP⟩, H.hd.says, ho, by rw [← H.hd.osays, kae, kae, List.map_append, List.map_take, List.map_drop], fun x hx => ⟨(H.hd.op x (List.mem_of_mem_eraseIdx hx)).1.calm hcP, (H.hd.op x (List.mem_of_mem_eraseIdx hx)).2.calm hcI⟩⟩;exact ⟨(hcM _ _ H.mb).setOther (a := ⟨N7, 3, U⟩) (by simp; omega) _, (hcH _ _ H.rb).setOther (a := ⟨N7, 3, U⟩) (by simp; omega) _, o5.set 3 _, hd5.set o5 (by decide) (by decide) (by decide) (by decide) _, (H.bel.trans (hk.below H.bel.size (fun b hb => by have h1 := H.hd.opn.base _ hb; omega))).setCell (by simp; omega) _, hne⟩
theorem HrT.ret (H : HrT w0 mk md mh mv bt nx N7 w a2 n2 c2 Y2 L a3 n3 c3 X2 O) :
  (∀ R : Nat → Prop, (∀ b, R b → b < w0.heap.size) → zy R (r (r (r (r w ⟨w0.heap.size + 2, 0, U⟩ (G a2 n2 c2)) ⟨w0.heap.size + 2, 1, U⟩ (E J bt)) ⟨w0.heap.size + 2, 2, U⟩ (E J nx)) ⟨w0.heap.size + 2, 3, U⟩ (G a3 n3 c3)) (.agg #[G a2 n2 c2, E J bt, E J nx, G a3 n3 c3]) ⟨L, bt, nx, O⟩) ∧
  Z w0.heap.size w0 (r (r (r (r w ⟨w0.heap.size + 2, 0, U⟩ (G a2 n2 c2)) ⟨w0.heap.size + 2, 1, U⟩ (E J bt)) ⟨w0.heap.size + 2, 2, U⟩ (E J nx)) ⟨w0.heap.size + 2, 3, U⟩ (G a3 n3 c3)) ∧
  Blk (r (r (r (r w ⟨w0.heap.size + 2, 0, U⟩ (G a2 n2 c2)) ⟨w0.heap.size + 2, 1, U⟩ (E J bt)) ⟨w0.heap.size + 2, 2, U⟩ (E J nx)) ⟨w0.heap.size + 2, 3, U⟩ (G a3 n3 c3)) (w0.heap.size + 2) #[G a2 n2 c2, E J bt, E J nx, G a3 n3 c3] 29 := by
 have z := H.rb;have hk4 := zct z (G a2 n2 c2) (E J bt) (E J nx) (G a3 n3 c3);have hO := (((((H.hd.mono (by omega : w0.heap.size ≤ w0.heap.size + 3)).set z (by decide) (by decide) (by decide) (by decide) (G a2 n2 c2) (i := 0)).set (z.set 0 _) (by decide) (by decide) (by decide) (by decide) (E J bt) (i := 1)).set ((z.set 0 _).set 1 _) (by decide) (by decide) (by decide) (by decide) (E J nx) (i := 2)).set (((z.set 0 _).set 1 _).set 2 _) (by decide) (by decide) (by decide) (by decide) (G a3 n3 c3) (i := 3));exact ⟨fun R hR => hO.v (g := ⟨L, bt, nx, O⟩) hR rfl rfl, H.bel.trans (hk4.2.below H.bel.size (fun b hb => by omega)), hk4.1⟩
theorem HrS.t (H : HrS w0 mk md mh mv bt nx N7 w a2 n2 c2 Y2 L a3 n3 c3 X2 O) : HrT w0 mk md mh mv bt nx N7 w a2 n2 c2 Y2 L a3 n3 c3 X2 O := ⟨H.mb, H.rb, H.ob, H.hd, H.bel, H.ne⟩
end
end Go.Proofs.Ytpcnlifmkhagkaa
