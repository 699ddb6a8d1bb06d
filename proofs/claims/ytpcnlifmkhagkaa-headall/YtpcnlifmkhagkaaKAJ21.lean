import Derived.Test.YtpcnlifmkhagkaaKAJ20
import Derived.Test.YtpcnlifmkhagkaaKAJ17
set_option maxRecDepth 20000
set_option maxHeartbeats 20000000
namespace Go.Proofs.Ytpcnlifmkhagkaa
open Go.RowKit
open Go.Value renaming slice → G, int → E
open Go.IntKind renaming i64 → J
open _root_.Option renaming none → U
open Go.Obj renaming cells → T
open Go.RowKit renaming Hid → Q, Below → Z
open Go.World renaming setCell → r
open _root_.Nat renaming le_refl → kaa
open _root_.List renaming getElem?_toArray → kab, getElem?_cons_zero → kac
attribute [local go_sem ↓] Go.wp_at_zero Go.wp_at_succ
theorem zhy (l : List P3) (hd : List Int) (x : Int) : inI (wtO l hd) x = (inI (zp l) x && !inI hd x) := by
 rw [Bool.eq_iff_iff, zci, Bool.and_eq_true, zci, Bool.not_eq_true'];unfold wtO
 rw [List.mem_filter];simp
theorem zk1 {l : List P3} {hd : List Int} {x : Int} (hn : hd.Nodup) (hs : ∀ k ∈ hd, k ∈ zp l) (hx : x ∈ zp l) (hxn : x ∉ hd) : (wtO l (hd ++ [x])).length = 0 ↔ (hd ++ [x]).length = (zp l).length := by
 have hn' : (hd ++ [x]).Nodup := by
  rw [List.nodup_append];exact ⟨hn, by simp, fun a ha b hb e => by rw [List.mem_singleton.1 hb] at e; exact hxn (e ▸ ha)⟩
 have hs' : ∀ k ∈ hd ++ [x], k ∈ zp l := fun k hk => by
  rcases List.mem_append.1 hk with hk | hk
  ·exact hs k hk
  ·rw [List.mem_singleton.1 hk]; exact hx
 have hle := zf9 hn' hs';constructor
 ·intro h
  have h0 := List.eq_nil_of_length_eq_zero h;unfold wtO at h0
  rw [List.filter_eq_nil_iff] at h0
  have h1 : ∀ k ∈ zp l, k ∈ hd ++ [x] := fun k hk => by
   have h2 := h0 k hk;rw [Bool.not_eq_true, Bool.not_eq_false'] at h2;exact zci.1 h2
  have h3 := zf9 (zgt l) h1;omega
 ·intro h
  have h1 := cover hn' hs' (by omega) (zgt l)
  have h0 : wtO l (hd ++ [x]) = [] := by
   unfold wtO
   rw [List.filter_eq_nil_iff];intro k hk;rw [Bool.not_eq_true, Bool.not_eq_false'];exact zci.2 (h1 k hk)
  rw [h0]; rfl
theorem zgn {m : Q4} : ∀ {O : List O4} {i : Nat} (hi : i < O.length), O[i].1 = m.2.1 → (∀ j (hj : j < O.length), j < i → O[j].1 ≠ m.2.1) → zbx m O = some (O.take i ++ ((zq m O[i]).1.toList ++ O.drop (i + 1)), (zq m O[i]).2.1, (zq m O[i]).2.2)
 | [], i, hi, _, _ => by simp at hi
 | o :: t, 0, _, h, _ => by
  simp only [List.getElem_cons_zero] at h
  simp [zbx, h]
 | o :: t, i + 1, hi, h, hl => by
  have h0 : o.1 ≠ m.2.1 := hl 0 (by simp) (by omega);have ih := zgn (m := m) (O := t) (i := i) (by simpa using hi) (by simpa using h) (fun j hj hji => hl (j + 1) (Nat.succ_lt_succ hj) (by omega));simp only [zbx, if_neg h0, ih, Option.map_some, List.take_succ_cons, List.getElem_cons_succ, List.drop_succ_cons, List.cons_append]
theorem zln {m : Q4} : ∀ {O : List O4}, (∀ o ∈ O, o.1 ≠ m.2.1) → zbx m O = U
 | [], _ => rfl
 | o :: t, h => by
  simp only [zbx, if_neg (h o List.mem_cons_self), zln (fun x hx => h x (List.mem_cons_of_mem _ hx)), Option.map_none]
theorem zos (la oa : Option Addr) (nl lc no oc : Nat) (bt nx : Int) (L : List R3) (O : List O4) (Y : List XL) (X : List XO) (mk md mh : Int) (ma : Option Addr) (mn mc : Nat) (ml : List P3) (w : World) (H : zbk (fun _ => False) w la nl Y oa no X L O) (hf : zcd O) (hok : OkL L) (hl : L.length ≤ 400000) (hno : ∀ o ∈ O, o.1 ≠ md) :
  Calls Try.prog 9 #[.agg #[G la nl lc, E J bt, E J nx, G oa no oc], .agg #[E J mk, E J md, E J mh, G ma mn mc]] w fun e w' => ∃ v' sv, e = .returned (.tuple #[v', sv]) ∧ (∀ R : Nat → Prop, (∀ b, R b → b < w.heap.size) → zy R w' v' (zh ⟨L, bt, nx, O⟩ (mk, md, mh, ml)).1) ∧ zm w' w.heap.size sv (zh ⟨L, bt, nx, O⟩ (mk, md, mh, ml)).2 ∧ Z w.heap.size w w' := by
 have hb0 : Z w.heap.size w (((w.alloc (T #[G la nl lc, E J bt, E J nx, G oa no oc] 29)).alloc (T #[E J mk, E J md, E J mh, G ma mn mc] 43)).alloc (T #[G U 0 0, E J 0, E J 0, G U 0 0] 29)) := (za2 w (T #[G la nl lc, E J bt, E J nx, G oa no oc] 29) (T #[E J mk, E J md, E J mh, G ma mn mc] 43)).alloc (by simp; omega) _;have h0 : Blk (((w.alloc (T #[G la nl lc, E J bt, E J nx, G oa no oc] 29)).alloc (T #[E J mk, E J md, E J mh, G ma mn mc] 43)).alloc (T #[G U 0 0, E J 0, E J 0, G U 0 0] 29)) w.heap.size #[G la nl lc, E J bt, E J nx, G oa no oc] 29 := ((Blk.new _ _ _).alloc _).alloc _;have hm0 : Blk (((w.alloc (T #[G la nl lc, E J bt, E J nx, G oa no oc] 29)).alloc (T #[E J mk, E J md, E J mh, G ma mn mc] 43)).alloc (T #[G U 0 0, E J 0, E J 0, G U 0 0] 29)) (w.heap.size + 1) #[E J mk, E J md, E J mh, G ma mn mc] 43 := Blk.alloc (zaq _ _ _) _;have hs2 : ((w.alloc (T #[G la nl lc, E J bt, E J nx, G oa no oc] 29)).alloc (T #[E J mk, E J md, E J mh, G ma mn mc] 43)).heap.size = w.heap.size + 2 := by simp
 have hz0 : Blk (((w.alloc (T #[G la nl lc, E J bt, E J nx, G oa no oc] 29)).alloc (T #[E J mk, E J md, E J mh, G ma mn mc] 43)).alloc (T #[G U 0 0, E J 0, E J 0, G U 0 0] 29)) (w.heap.size + 2) #[G U 0 0, E J 0, E J 0, G U 0 0] 29 := by rw [← hs2]; exact Blk.new _ _ _
 have hs0 : (((w.alloc (T #[G la nl lc, E J bt, E J nx, G oa no oc] 29)).alloc (T #[E J mk, E J md, E J mh, G ma mn mc] 43)).alloc (T #[G U 0 0, E J 0, E J 0, G U 0 0] 29)).heap.size = w.heap.size + 3 := by simp
 have hnL : nl = L.length := by rw [← H.says, List.length_map]; exact H.ln
 have HG := zE (H.below hb0) hf hok hl hnL;clear H hf hok hl hnL hs2;go_enter Try.func9, Try.ntmps9
 go_upto_region 1 with fail
 generalize (((w.alloc (T #[G la nl lc, E J bt, E J nx, G oa no oc] 29)).alloc (T #[E J mk, E J md, E J mh, G ma mn mc] 43)).alloc (T #[G U 0 0, E J 0, E J 0, G U 0 0] 29)) = V at *;obtain ⟨x0, x1, x2, x3⟩ := h0.cells4;have l0 := h0.lt;go_wp2_with fail
 refine (zgd la oa nl lc no oc bt nx Y X L O V HG.out.1 HG.out.2.1 HG.out.2.2.1 (by have := HG.out.2.2.2.1; omega)).mono ?_;rintro e w2 ⟨_, rfl, ⟨a2, n2, c2, Y2, a3, n3, c3, X2, rfl, hO2, hE2⟩, jV⟩;have hn2 : n2 = nl := by rw [(hO2.log.1.at za4).2.1, HG.out.2.2.2.2, ← hO2.says, List.length_map]
 subst hn2
 have H1 : Q (HrS w mk md mh (G ma mn mc) bt nx w2.heap.size (w2.alloc (T #[G a2 n2 c2, E J bt, E J nx, G a3 n3 c3] 29)) a2 n2 c2 Y2 L a3 n3 c3 X2 O) := by
  have hbb := zi w2 (T #[G a2 n2 c2, E J bt, E J nx, G a3 n3 c3] 29);have hsz := jV.size;exact ⟨(hm0.below jV hm0.lt).below hbb (by omega), (hz0.below jV hz0.lt).below hbb (by omega), Blk.new _ _ _, (hO2.mono (by omega : w.heap.size + 3 ≤ V.heap.size)).below hbb, (hE2.mono (by omega : w.heap.size + 3 ≤ V.heap.size)).below hbb, (hb0.trans (jV.mono hb0.size)).trans (hbb.mono (by omega)), by omega⟩
 clear hO2 hE2 jV hb0 hz0 hm0 h0 hs0 x0 x1 x2 x3 l0;go_upto_region 3 with fail
 obtain ⟨N7, hN7⟩ : ∃ N7, N7 = w2.heap.size := ⟨_, rfl⟩;rw [← hN7] at H1;generalize w2.alloc (T #[G a2 n2 c2, E J bt, E J nx, G a3 n3 c3] 29) = A at *;rw [← hN7];clear hN7;obtain ⟨nl, hnl'⟩ : ∃ nl, nl = n2 := ⟨_, rfl⟩;subst hnl';have x3 := H1.out.ob.cell 3;simp only [kab, kac, List.getElem?_cons_succ] at x3
 have l0 := H1.out.ob.lt;have hn3 : Q (n3 = X2.length ∧ X2.length ≤ 100000) := ⟨(H1.out.hd.opn.at zas).2.1, by have h1 := H1.out.hd.osays; have h2 := HG.out.2.1.1; rw [← h1, List.length_map] at h2; exact h2⟩;go_wp2_with fail
 refine (zga 21 #[.pointer (some ⟨w.heap.size + 1, 0, U⟩)] zgl (fun x => x.1 == md) a3 X2 c3 n3 A hn3.out.1 (by have := hn3.out.2; omega) (H1.out.hd.opn.at zas).1 (fun x _ w' hb => zgk (w.heap.size + 1) mk md mh x.1 (G ma mn mc) _ _ _ w' (H1.out.mb.below hb H1.out.mb.lt))).mono ?_;rintro e w3 ⟨jj, rfl, hidx, hb3⟩;have HX := zA hidx;have H3 : Q (HrS w mk md mh (G ma mn mc) bt nx N7 (w3.alloc (T #[E J jj] 3)) a2 nl c2 Y2 L a3 n3 c3 X2 O ∧ Blk (w3.alloc (T #[E J jj] 3)) w3.heap.size #[E J jj] 3) := ⟨(H1.out.below hb3).below (zi w3 _), Blk.new _ _ _⟩;clear hidx hb3 H1 x3 l0;go_upto_region 4 with fail
 generalize w3.alloc (T #[E J jj] 3) = D at *;have i0 := H3.out.2.cell 0;simp only [kab, kac] at i0
 have li := H3.out.2.lt
 have hr : Q (jj = -1) := by
  rcases HX.out with ⟨h, _⟩ | ⟨i, hi, _, hp, _⟩
  ·exact h
  ·exfalso
   have h1 := hno (zz X2[i]) (by rw [← H3.out.1.hd.osays]; exact List.mem_map.2 ⟨_, List.getElem_mem hi, rfl⟩);exact h1 (by simpa [zz] using hp)
 have hrn := hr.out;subst hrn;have HH : Q (zbx (mk, md, mh, ml) O = U) := zln hno;clear hno;by_cases k7 : mk = 7
 ·have HP : Q (zh ⟨L, bt, nx, O⟩ (mk, md, mh, ml) = (⟨L, bt, nx, O⟩, [(5, md, mh, [])])) := by
   show _ = _
   unfold zh
   simp only
   rw [HH.out];simp [k7]
  have m0 := H3.out.1.mb.cell 0;simp only [kab, kac] at m0
  have lm := H3.out.1.mb.lt;have e7 : (mk == 7) = true := by simpa using k7
  clear k7;go_upto_region 6 with fail
  clear i0 li m0 lm e7;have hX1 : Z D.heap.size D D.drew := (Below.refl _ _).drew;have HK : Q (∀ w', Z D.heap.size D w' → (w'.cell? ⟨N7, 0, U⟩ = some (G a2 nl c2) ∧ w'.cell? ⟨N7, 1, U⟩ = some (E J bt) ∧ w'.cell? ⟨N7, 2, U⟩ = some (E J nx) ∧ w'.cell? ⟨N7, 3, U⟩ = some (G a3 n3 c3))) := fun w' hb => ⟨(H3.out.1.ob.below hb H3.out.1.ob.lt).cell 0, (H3.out.1.ob.below hb H3.out.1.ob.lt).cell 1, (H3.out.1.ob.below hb H3.out.1.ob.lt).cell 2, (H3.out.1.ob.below hb H3.out.1.ob.lt).cell 3⟩
  refine zcf (S := fun w' => (w'.cell? ⟨N7, 0, U⟩ = some (G a2 nl c2) ∧ w'.cell? ⟨N7, 1, U⟩ = some (E J bt) ∧ w'.cell? ⟨N7, 2, U⟩ = some (E J nx) ∧ w'.cell? ⟨N7, 3, U⟩ = some (G a3 n3 c3))) 3 (by kernel_rfl) (HK.out _ hX1) (fun jq => ?_);refine tks 2 [(0, 25), (1, 26)] (b := ?_) rfl (by decide +kernel) (fun _ _ _ _ _ h => h) ?_ jq ?_;rotate_left 1
  ·iterate 2 (refine zaa.cons (v := ?_) rfl rfl (by rfl) ?_ ?_; rotate_left 1; (intro w h; (try dsimp only at h); go_simp; try with_reducible rfl))
   exact zaa.nil
  refine rdy 2 (by kernel_rfl) rfl (fun K hK => ?_);go_simp;refine (zll (w.heap.size + 1) mk md mh 5 (G ma mn mc) D.drew (H3.out.1.mb.below hX1 H3.out.1.mb.lt)).mono ?_;rintro e w4 ⟨v4, rfl, hM4, hb4⟩;have hX4 := hX1.trans (hb4.mono hX1.size);have hM4' : zm w4 w.heap.size v4 [(5, md, mh, [])] := hM4.mono (by have h1 := H3.out.1.bel.size; have h2 := hX1.size; omega);clear hM4 hb4;go_wp2_with fail
  refine kgo hK (by decide +kernel) ((HK.out _ hX4)) (fun jq => ?_);clear hK K;have z := H3.out.1.rb.below hX4 H3.out.1.rb.lt;obtain ⟨t0, t1, t2, t3⟩ := z.cells4;obtain ⟨y0, y1, y2, y3⟩ := z.free4;have lr := z.lt;refine rdy 3 (by kernel_rfl) rfl (fun K hK => ?_);go_simp;refine zbb hK (by decide +kernel) ?_;clear hK K jq;refine rdy 4 (by kernel_rfl) rfl (fun K hK => ?_);go_simp;refine zbb hK (by decide +kernel) ?_;clear hK K;refine zbo (by kernel_rfl) ?_ _;obtain ⟨p1, p2, p3⟩ := (H3.out.1.below hX4).ret;obtain ⟨e0, e1, e2, e3⟩ := p3.cells4;have HF : Q ((∀ R : Nat → Prop, (∀ b, R b → b < w.heap.size) → zy R (r (r (r (r w4 ⟨(w.heap.size + 2), 0, U⟩ (G a2 nl c2)) ⟨(w.heap.size + 2), 1, U⟩ (E J bt)) ⟨(w.heap.size + 2), 2, U⟩ (E J nx)) ⟨(w.heap.size + 2), 3, U⟩ (G a3 n3 c3)) (.agg #[G a2 nl c2, E J bt, E J nx, G a3 n3 c3]) (zh ⟨L, bt, nx, O⟩ (mk, md, mh, ml)).1) ∧ zm (r (r (r (r w4 ⟨(w.heap.size + 2), 0, U⟩ (G a2 nl c2)) ⟨(w.heap.size + 2), 1, U⟩ (E J bt)) ⟨(w.heap.size + 2), 2, U⟩ (E J nx)) ⟨(w.heap.size + 2), 3, U⟩ (G a3 n3 c3)) w.heap.size v4 (zh ⟨L, bt, nx, O⟩ (mk, md, mh, ml)).2 ∧ Z w.heap.size w (r (r (r (r w4 ⟨(w.heap.size + 2), 0, U⟩ (G a2 nl c2)) ⟨(w.heap.size + 2), 1, U⟩ (E J bt)) ⟨(w.heap.size + 2), 2, U⟩ (E J nx)) ⟨(w.heap.size + 2), 3, U⟩ (G a3 n3 c3))) := by rw [HP.out]; exact ⟨p1, hM4'.set4 z _ _ _ _, p2⟩
  clear p1 p2 p3 hM4' z t0 t1 t2 t3 y0 y1 y2 y3 lr;generalize (r (r (r (r w4 ⟨(w.heap.size + 2), 0, U⟩ (G a2 nl c2)) ⟨(w.heap.size + 2), 1, U⟩ (E J bt)) ⟨(w.heap.size + 2), 2, U⟩ (E J nx)) ⟨(w.heap.size + 2), 3, U⟩ (G a3 n3 c3)) = Z9 at *;go_wp2_with fail
  refine bodyPost_ret (v := .tuple #[.agg #[G a2 nl c2, E J bt, E J nx, G a3 n3 c3], v4]) ?_ rfl ⟨_, _, rfl, HF.out.1, HF.out.2.1, HF.out.2.2⟩;simp [results, Try.results9, go_sem, e0, e1, e2, e3]
 ·have HP : Q (zh ⟨L, bt, nx, O⟩ (mk, md, mh, ml) = (⟨L, bt, nx, O⟩, [])) := by
   show _ = _
   unfold zh
   simp only
   rw [HH.out];simp [k7]
  have m0 := H3.out.1.mb.cell 0;simp only [kab, kac] at m0
  have lm := H3.out.1.mb.lt;have e7 : (mk == 7) = false := by simpa using k7
  clear k7;go_upto_region 7 with fail
  clear i0 li m0 lm e7;obtain ⟨r0, r1, r2, r3⟩ := (H3.out.1).ob.cells4;obtain ⟨t0, t1, t2, t3⟩ := (H3.out.1).rb.cells4;obtain ⟨y0, y1, y2, y3⟩ := (H3.out.1).rb.free4;have lo := (H3.out.1).ob.lt;have lr := (H3.out.1).rb.lt;obtain ⟨p1, p2, p3⟩ := (H3.out.1).ret;obtain ⟨e0, e1, e2, e3⟩ := p3.cells4;have HF : Q ((∀ R : Nat → Prop, (∀ b, R b → b < w.heap.size) → zy R ((((D.setCell ⟨(w.heap.size + 2), 0, U⟩ (G a2 nl c2)).setCell ⟨(w.heap.size + 2), 1, U⟩ (E J bt)).setCell ⟨(w.heap.size + 2), 2, U⟩ (E J nx)).setCell ⟨(w.heap.size + 2), 3, U⟩ (G a3 n3 c3)) (.agg #[G a2 nl c2, E J bt, E J nx, G a3 n3 c3]) (zh ⟨L, bt, nx, O⟩ (mk, md, mh, ml)).1) ∧ zm ((((D.setCell ⟨(w.heap.size + 2), 0, U⟩ (G a2 nl c2)).setCell ⟨(w.heap.size + 2), 1, U⟩ (E J bt)).setCell ⟨(w.heap.size + 2), 2, U⟩ (E J nx)).setCell ⟨(w.heap.size + 2), 3, U⟩ (G a3 n3 c3)) w.heap.size (G U 0 0) (zh ⟨L, bt, nx, O⟩ (mk, md, mh, ml)).2 ∧ Z w.heap.size w ((((D.setCell ⟨(w.heap.size + 2), 0, U⟩ (G a2 nl c2)).setCell ⟨(w.heap.size + 2), 1, U⟩ (E J bt)).setCell ⟨(w.heap.size + 2), 2, U⟩ (E J nx)).setCell ⟨(w.heap.size + 2), 3, U⟩ (G a3 n3 c3))) := by rw [HP.out]; exact ⟨p1, zm.nil _ _, p2⟩
  clear p1 p2 p3;go_wp2_with fail
  clear r0 r1 r2 r3 t0 t1 t2 t3 y0 y1 y2 y3 lo lr;generalize ((((D.setCell ⟨(w.heap.size + 2), 0, U⟩ (G a2 nl c2)).setCell ⟨(w.heap.size + 2), 1, U⟩ (E J bt)).setCell ⟨(w.heap.size + 2), 2, U⟩ (E J nx)).setCell ⟨(w.heap.size + 2), 3, U⟩ (G a3 n3 c3)) = Z9 at *;refine bodyPost_ret (v := .tuple #[.agg #[G a2 nl c2, E J bt, E J nx, G a3 n3 c3], (G U 0 0)]) ?_ rfl ⟨_, _, rfl, HF.out.1, HF.out.2.1, HF.out.2.2⟩;simp [results, Try.results9, go_sem, e0, e1, e2, e3]
def zgq (w' w'' : World) (N : Nat) (m : Q4) : Prop :=
 ∃ (a : Option Addr) (n c : Nat), n = m.2.2.2.length ∧ Blk w'' N #[E J m.1, E J m.2.1, E J m.2.2.1, G a n c] 43 ∧ zam w'.heap.size w'' a m.2.2.2 ∧ zg (fun q => q = N) w' w''
theorem zmp (F : Nat) (cap1 : Array Value) (hF : zfc F) (f : Int → Q4) (dd : Int) (o1 o2 o3 : Value) (ga : Option Addr) (gn gc : Nat) (hs : List Int) (w : World) (hgn : gn = hs.length) (hsl : hs.length ≤ 100000) (hr : zk 1 zv w ga hs) (hl : ∀ x ∈ hs, (f x).2.2.2.length ≤ 1000)
  (hf : ∀ x ∈ hs, ∀ w' N, Z w.heap.size w w' → w.heap.size ≤ N → Blk w' N #[E J 0, E J dd, E J x, G U 0 0] 43 → Calls Try.prog F (#[.pointer (some ⟨N, 0, U⟩)] ++ cap1) w' fun e w'' => e = .returned (.tuple #[]) ∧ zgq w' w'' N (f x)) :
  Calls Try.prog 35 #[.agg #[E J dd, o1, o2, o3], G ga gn gc, .func (.func F) #[] cap1] w fun e w' => ∃ v', e = .returned v' ∧ zm w' w.heap.size v' (hs.map f) ∧ Z w.heap.size w w' := by
 have hb0 := zi w (T #[E J dd, o1, o2, o3] 38);have hbx : Blk (w.alloc (T #[E J dd, o1, o2, o3] 38)) w.heap.size #[E J dd, o1, o2, o3] 38 := Blk.new _ _ _;have HG := zD hgn hr hl hf;have hgl : gn ≤ 100000 := by omega
 clear hgn hr hl hf;go_enter Try.func35, Try.ntmps35
 go_upto_region 2 with fail
 generalize w.alloc (T #[E J dd, o1, o2, o3] 38) = V at *;have HV := zB hb0 hbx;clear hb0 hbx;go_wp2;go_loopw [7, 13] (fun v i w' => ∃ k : Nat, k ≤ gn ∧ i = E J k ∧ Q (zm w' w.heap.size v ((hs.take k).map f) ∧ Z w.heap.size w w' ∧ Blk w' w.heap.size #[E J dd, o1, o2, o3] 38)) (fun _ i _ => gn - (intOf i).toNat)
 case atStart => exact ⟨0, Nat.zero_le _, rfl, zm.nil _ _, HV.out⟩
 case round =>
  obtain ⟨k, hk, rfl, hH⟩ := hrel;obtain ⟨zX, hU, hUs, hUT⟩ := hH.out.1;obtain ⟨av, nv, cv, rfl⟩ := hU.slice zbw;have HU : Q (zd 43 4 zb4 wr w.heap.size (G av nv cv) zX ∧ zX.map zc6 = (hs.take k).map f ∧ (∀ x ∈ zX, zam w.heap.size wr x.2.2.2.1.1 x.2.2.2.2) ∧ zX.length ≤ k) := ⟨hU, hUs, hUT, by rw [← List.length_map (f := zc6), hUs, List.length_map, List.length_take]; omega⟩;clear hU hUs hUT;by_cases hlt : k < gn
  ·have hkX : k < hs.length := by have := HG.out.1; omega
   obtain ⟨b, o, rfl, hbl, d0⟩ : ∃ b o, ga = some ⟨b, o, U⟩ ∧ b < wr.heap.size ∧ wr.cell? ⟨b, o + k, U⟩ = some (E J hs[k]) := by
    rcases HG.out.2.1.below hH.out.2.1 with h | ⟨b, o, h, _⟩
    ·rw [h] at hkX; simp at hkX
    ·subst h
     have h2 := zih (HG.out.2.1.below hH.out.2.1) hkX;exact ⟨b, o, rfl, h2.1, h2.2⟩
   have HT : Q ((hs.take (k + 1)).map f = (hs.take k).map f ++ [f hs[k]]) := by show _ = _; rw [zax hkX, List.map_append]; rfl
   have hfx := HG.out.2.2.2 _ (List.getElem_mem hkX);have hlx := HG.out.2.2.1 _ (List.getElem_mem hkX);generalize hs[k] = x at *;generalize hq : f x = q at *;clear hq;have HQ := zA hfx;clear hfx;obtain ⟨q1, q2, q3, q4⟩ := q;obtain ⟨c0, -, -, -⟩ := hH.out.2.2.cells4;have lc := hH.out.2.2.lt;go_upto_region 6 with fail
   have hbA := zi wr (T #[E J 0, E J dd, E J x, G U 0 0] 43);have HA : Q (Z wr.heap.size wr (wr.alloc (T #[E J 0, E J dd, E J x, G U 0 0] 43)) ∧ Blk (wr.alloc (T #[E J 0, E J dd, E J x, G U 0 0] 43)) wr.heap.size #[E J 0, E J dd, E J x, G U 0 0] 43 ∧ Z w.heap.size w wr) := ⟨hbA, Blk.new _ _ _, hH.out.2.1⟩;have hsA : wr.heap.size < (wr.alloc (T #[E J 0, E J dd, E J x, G U 0 0] 43)).heap.size := by simp
   clear hbA d0 c0 lc;generalize wr.alloc (T #[E J 0, E J dd, E J x, G U 0 0] 43) = A at *;have HC := HQ.out A wr.heap.size (HA.out.2.2.trans (HA.out.1.mono HA.out.2.2.size)) HA.out.2.2.size HA.out.2.1;go_wp2_with fail
   rw [hF.out, Oper.upon_enter];refine HC.mono ?_;rintro e w2 ⟨rfl, pa, pn, pc, hpn, hM, hP, hK⟩;have hb2 := HA.out.1.trans (hK.below (Nat.le_of_lt hsA) (fun b hb => by subst hb; exact kaa _));have H2 : Q (Blk w2 wr.heap.size #[E J q1, E J q2, E J q3, G pa pn pc] 43 ∧ zam A.heap.size w2 pa q4 ∧ Z wr.heap.size wr w2 ∧ pn = q4.length ∧ Blk w2 w.heap.size #[E J dd, o1, o2, o3] 38) := ⟨hM, hP, hb2, hpn, hH.out.2.2.below hb2 hH.out.2.2.lt⟩;have HH := zA hH.out.2.1;have hss := hb2.size;have hwr := HH.out.size;clear HC hM hP hK hb2 hH hpn;obtain ⟨b0, b1, b2, b3⟩ := H2.out.1.cells4;have lb := H2.out.1.lt;have hUl : zX.length ≤ 100000 := by have := HU.out.2.2.2; omega
   go_wp2_with (at_builtin; refine zbj zbw oneM Try.underlying24 zfm rfl (by decide) _ rfl _ _ rfl w.heap.size _ zX rfl ((HU.out.1.below H2.out.2.2.1 (kaa _)).below (zi w2 _) (kaa _)) (some ⟨w2.heap.size, 0, U⟩) 1 1 [(q1, q2, q3, (pa, pc), q4)] rfl rfl (zk.one (Blk.new w2 _ _) (by simp [zb4, H2.out.2.2.2.1])) (by unfold maxLen; simp; omega) (by simp; omega) (by simp; omega) ?_; intro a4 n4 c4 w4 jv hn4 jy jQ; clear hn4 jQ)
   have hbA2 := zi w2 (T #[E J q1, E J q2, E J q3, G pa pn pc] 43);have hoA := (HU.out.1.below H2.out.2.2.1 (kaa _)).below hbA2 (kaa _)
   have HF : Q (zm w4 w.heap.size (G a4 n4 c4) ((hs.take k).map f ++ [(q1, q2, q3, q4)]) ∧ Z w.heap.size w w4 ∧ Blk w4 w.heap.size #[E J dd, o1, o2, o3] 38) := by
    refine ⟨zm.app HU.out.2.1 HU.out.2.2.1 ((zj.below H2.out.2.2.1 (kaa _)).trans (zj.below hbA2 (kaa _))) hoA jy jv rfl (fun y hy => ?_), ?_, ?_⟩
    ·rw [List.mem_singleton.1 hy]
     exact (H2.out.2.1.mono (by omega)).calm (zj.below hbA2 (kaa _))
    ·exact (((HH.out.trans (H2.out.2.2.1.mono hwr)).trans (hbA2.mono (by omega)))).grown jy (by simp; omega) (fun k hk => hoA.base _ hk)
    ·exact (H2.out.2.2.2.2.below hbA2 H2.out.2.2.2.2.lt).keptT jy (hoA.grownT (by decide))
   clear hbA2 hoA jv jy b0 b1 b2 b3 lb;go_wp2;go_roundw
   case rel => exact ⟨k + 1, by omega, by go_num, by rw [HT.out]; exact HF.out⟩
   case measure => simp [intOf]; omega
  ·have hT : hs.take k = hs := List.take_of_length_le (by have := HG.out.1; omega)
   rw [hT] at hH;have HF := zB hH.out.1 hH.out.2.1;clear hH hT;go_wp2;go_ret;exact ⟨_, rfl, HF.out.1, HF.out.2⟩
theorem entersAb : zfc 41 := fun _ _ => rfl
theorem entersAs : zfc 37 := fun _ _ => rfl
theorem zpj (N : Nat) (dd x : Int) (w : World) (hb : Blk w N #[E J 0, E J dd, E J x, G U 0 0] 43) :
  Calls Try.prog 41 #[.pointer (some ⟨N, 0, U⟩)] w fun e w' => e = .returned (.tuple #[]) ∧ zgq w w' N (5, dd, x, []) := by
 have HF : Q (zgq w (r w ⟨N, 0, U⟩ (E J 5)) N (5, dd, x, [])) := ⟨none, 0, 0, rfl, hb.set 0 _, Or.inl rfl, zg.setCells (R := fun q => q = N) rfl [E J 5] 0 w (zg.refl _ _)⟩;obtain ⟨b0, -, -, -⟩ := hb.cells4;have f0 := hb.free 0;have lb := hb.lt;clear hb;go_enter Try.func41, Try.ntmps41
 go_wp2;exact bodyPost_end (v := .tuple #[]) (results_none rfl _ _ _) rfl ⟨rfl, HF.out⟩
theorem ofB_len (l : List P3) (x : Int) : (ofB l x).length ≤ l.length := List.length_filter_le _ _
theorem asks1_any (b N : Nat) (dd : Int) (pa : Option Addr) (ln pc : Nat) (l : List P3) (dec : Bool) (ha : Option Addr) (hn hc : Nat) (x : Int) (w : World) (ho : Blk w b #[E J dd, G pa ln pc, .bool dec, G ha hn hc] 38) (hb : Blk w N #[E J 0, E J dd, E J x, G U 0 0] 43) (hne : b ≠ N) (hln : ln = l.length) (h4 : l.length ≤ 4) (hp : zae (fun q => q = N) w pa l) :
  Calls Try.prog 37 #[.pointer (some ⟨N, 0, U⟩), .pointer (some ⟨b, 0, U⟩)] w fun e w' => e = .returned (.tuple #[]) ∧ zgq w w' N (if dec = true then (4, dd, x, []) else (1, dd, x, ofB l x)) := by
 have hk1 : zg (fun q => q = N) w (r w ⟨N, 0, U⟩ (E J 1)) := zg.setCells (R := fun q => q = N) rfl [E J 1] 0 w (zg.refl _ _);have ho1 : Blk (r w ⟨N, 0, U⟩ (E J 1)) b #[E J dd, G pa ln pc, .bool dec, G ha hn hc] 38 := ho.setOther (a := ⟨N, 0, U⟩) (by simpa using hne) _;have hb1 : Blk (r w ⟨N, 0, U⟩ (E J 1)) N #[E J 1, E J dd, E J x, G U 0 0] 43 := hb.set 0 _;have hp1 := (hp.keep hk1).1;obtain ⟨b0, b1, b2, b3⟩ := hb.cells4;have f0 := hb.free 0;have lb := hb.lt;have HQ := zE hln h4 hp1 hb1 hk1;have HO := zA ho1;clear ho hb hln h4 hp hk1 ho1 hb1 hp1;go_enter Try.func37, Try.ntmps37
 go_upto_region 1 with fail
 clear b0 b1 b2 b3 f0 lb;generalize r w ⟨N, 0, U⟩ (E J 1) = W1 at *;obtain ⟨o0, o1, o2, o3⟩ := HO.out.cells4;obtain ⟨b0, b1, b2, b3⟩ := HQ.out.2.2.2.1.cells4;have f0 := HQ.out.2.2.2.1.free 0;have lo := HO.out.lt;have lb := HQ.out.2.2.2.1.lt
 cases dec with
 | true =>
  have HF : Q (zgq w (r W1 ⟨N, 0, U⟩ (E J 4)) N (4, dd, x, [])) := ⟨none, 0, 0, rfl, HQ.out.2.2.2.1.set 0 _, Or.inl rfl, HQ.out.2.2.2.2.trans (zg.setCells (R := fun q => q = N) rfl [E J 4] 0 W1 (zg.refl _ _))⟩;go_wp2;exact bodyPost_ret (v := .tuple #[]) (results_none rfl _ _ _) rfl ⟨rfl, HF.out⟩
 | false =>
  have hX1 : Z W1.heap.size W1 W1.drew := (Below.refl _ _).drew;have HK : Q (∀ w', Z W1.heap.size W1 w' → (w'.cell? ⟨b, 1, U⟩ = some (G pa ln pc) ∧ w'.cell? ⟨N, 2, U⟩ = some (E J x))) := fun w' hb => ⟨(HO.out.below hb HO.out.lt).cell 1, (HQ.out.2.2.2.1.below hb HQ.out.2.2.2.1.lt).cell 2⟩
  go_upto_region 3 with fail
  refine zcf (S := fun w' => (w'.cell? ⟨b, 1, U⟩ = some (G pa ln pc) ∧ w'.cell? ⟨N, 2, U⟩ = some (E J x))) 10 (by kernel_rfl) (HK.out _ hX1) (fun jq => ?_);refine tks 7 [(0, 11), (1, 12), (3, 14), (2, 13), (4, 15), (5, 16), (6, 17)] (b := ?_) rfl (by decide +kernel) (fun _ _ _ _ _ h => h) ?_ jq ?_;rotate_left 1
  ·iterate 7 (refine zaa.cons (v := ?_) rfl rfl (by rfl) ?_ ?_; rotate_left 1; (intro w h; (try dsimp only at h); go_simp; try with_reducible rfl))
   exact zaa.nil
  refine rdy 7 (by kernel_rfl) rfl (fun K hK => ?_);go_simp;(go_at_call 38; refine (of_any x pa l pc ln W1.drew HQ.out.1 HQ.out.2.1 (HQ.out.2.2.1.below hX1)).mono ?_; rintro e w2 ⟨v2, rfl, ho2, hb2⟩; obtain ⟨a5, c5, rfl, hT5, -⟩ := ho2.typed; have hX2 : Z W1.heap.size W1 w2 := hX1.trans (hb2.mono hX1.size); have H2 : Q (zam W1.heap.size w2 a5 (ofB l x) ∧ Blk w2 N #[E J 1, E J dd, E J x, G U 0 0] 43 ∧ Z W1.heap.size W1 w2) := ⟨hT5.mono hX1.size, HQ.out.2.2.2.1.below hX2 HQ.out.2.2.2.1.lt, hX2⟩; clear ho2 hT5 hb2; obtain ⟨m5, hm5⟩ : ∃ m5, Q ((ofB l x).length = m5) := ⟨_, rfl⟩; rw [hm5.out])
  go_wp2_with fail
  refine kgo hK (by decide +kernel) ((HK.out _ hX2)) (fun jq => ?_);clear hK K;have n3 := H2.out.2.1.cell 3;have k3 := H2.out.2.1.free 3;have l3 := H2.out.2.1.lt;simp only [kab, kac, List.getElem?_cons_succ] at n3
  refine tks 2 [(8, 19), (9, 20)] (b := ?_) rfl (by decide +kernel) (fun _ _ _ _ _ h => h) ?_ jq ?_;rotate_left 1
  ·iterate 2 (refine zaa.cons (v := ?_) rfl rfl (by rfl) ?_ ?_; rotate_left 1; (intro w h; (try dsimp only at h); go_simp; try with_reducible rfl))
   exact zaa.nil
  refine rdy 10 (by kernel_rfl) rfl (fun K hK => ?_);go_simp;refine zbb hK (by decide +kernel) ?_;clear hK K jq;refine zbo (by kernel_rfl) ?_ _
  have HF : Q (zgq w (r w2 ⟨N, 3, U⟩ (G a5 m5 c5)) N (1, dd, x, ofB l x)) := by
   refine ⟨a5, m5, c5, hm5.out.symm, H2.out.2.1.set 3 _, (H2.out.1.mono HQ.out.2.2.2.2.size).calm (zj.setCell (a := ⟨N, 3, U⟩) H2.out.2.1 (by decide) _), (HQ.out.2.2.2.2.trans (zg.ofBelow H2.out.2.2 (fun k h1 h2 => absurd h2 (by omega)))).trans (zg.setCells (R := fun q => q = N) rfl [G a5 m5 c5] 3 w2 (zg.refl _ _))⟩
  clear n3 k3 l3;generalize r w2 ⟨N, 3, U⟩ (G a5 m5 c5) = W3 at *;go_wp2;exact bodyPost_end (v := .tuple #[]) (results_none rfl _ _ _) rfl ⟨rfl, HF.out⟩
theorem zja (dd : Int) (pa : Option Addr) (ln pc : Nat) (l : List P3) (dec : Bool) (ha : Option Addr) (hn hc : Nat) (hd : List Int) (w : World) (hln : ln = l.length) (hr : zcb l) (hp : zal w pa l) (hnn : hn = hd.length) (hl : hd.length ≤ 100000) (hi : zk 1 zv w ha hd) :
  Calls Try.prog 18 #[.agg #[E J dd, G pa ln pc, .bool dec, G ha hn hc]] w fun e w' => ∃ v', e = .returned v' ∧ zm w' w.heap.size v' (za6 (dd, l, dec, hd)) ∧ Z w.heap.size w w' := by
 have hb0 := zi w (T #[E J dd, G pa ln pc, .bool dec, G ha hn hc] 38);have hbx : Blk (w.alloc (T #[E J dd, G pa ln pc, .bool dec, G ha hn hc] 38)) w.heap.size #[E J dd, G pa ln pc, .bool dec, G ha hn hc] 38 := Blk.new _ _ _;have hsA : w.heap.size < (w.alloc (T #[E J dd, G pa ln pc, .bool dec, G ha hn hc] 38)).heap.size := by simp
 have HQ := zF hln hr hp hnn hl hi;clear hln hr hp hnn hl hi;go_enter Try.func18, Try.ntmps18
 go_upto_region 1 with fail
 generalize w.alloc (T #[E J dd, G pa ln pc, .bool dec, G ha hn hc] 38) = A at *;have HA := zC hb0 hbx hsA;clear hb0 hbx hsA;have hX1 : Z A.heap.size A A.drew := (Below.refl _ _).drew;have HK : Q (∀ w', Z A.heap.size A w' → (w'.cell? ⟨w.heap.size, 0, U⟩ = some (E J dd) ∧ w'.cell? ⟨w.heap.size, 1, U⟩ = some (G pa ln pc) ∧ w'.cell? ⟨w.heap.size, 2, U⟩ = some (.bool dec) ∧ w'.cell? ⟨w.heap.size, 3, U⟩ = some (G ha hn hc))) := fun w' hb => ⟨(HA.out.2.1.below hb HA.out.2.1.lt).cell 0, (HA.out.2.1.below hb HA.out.2.1.lt).cell 1, (HA.out.2.1.below hb HA.out.2.1.lt).cell 2, (HA.out.2.1.below hb HA.out.2.1.lt).cell 3⟩
 refine zcf (S := fun w' => (w'.cell? ⟨w.heap.size, 0, U⟩ = some (E J dd) ∧ w'.cell? ⟨w.heap.size, 1, U⟩ = some (G pa ln pc) ∧ w'.cell? ⟨w.heap.size, 2, U⟩ = some (.bool dec) ∧ w'.cell? ⟨w.heap.size, 3, U⟩ = some (G ha hn hc))) 5 (by kernel_rfl) (HK.out _ hX1) (fun jq => ?_);refine tks 3 [(0, 3), (1, 4), (3, 6)] (b := ?_) rfl (by decide +kernel) (fun _ _ _ _ _ h => h) ?_ jq ?_;rotate_left 1
 ·iterate 3 (refine zaa.cons (v := ?_) rfl rfl (by rfl) ?_ ?_; rotate_left 1; (intro w h; (try dsimp only at h); go_simp; try with_reducible rfl))
  exact zaa.nil
 refine rdy 2 (by kernel_rfl) rfl (fun K hK => ?_);go_simp;(go_at_call 36; refine (zjk dd pa ln pc l dec ha hn hc hd A.drew HQ.out.1 HQ.out.2.1 (HQ.out.2.2.1.below (HA.out.1.trans (hX1.mono HA.out.1.size))) HQ.out.2.2.2.1 HQ.out.2.2.2.2.1 (HQ.out.2.2.2.2.2.below (HA.out.1.trans (hX1.mono HA.out.1.size)))).mono ?_; rintro e w2 ⟨v2, rfl, ho2, hb2⟩; obtain ⟨ga, gn, gc, rfl⟩ := ho2.slice zai; have hX2 : Z A.heap.size A w2 := hX1.trans (hb2.mono hX1.size); have H2 : Q (zk 1 zv w2 ga ((zp l).filter fun n => !inI hd n) ∧ gn = ((zp l).filter fun n => !inI hd n).length) := ⟨(ho2.at zai).1, (ho2.at zai).2.1⟩; clear ho2 hb2)
 go_wp2_with fail
 refine kgo hK (by decide +kernel) ((HK.out _ hX2)) (fun jq => ?_);clear hK K;refine rdy 4 (by kernel_rfl) rfl (fun K hK => ?_);go_simp;(go_at_call 35; refine (zmp 37 #[.pointer (some ⟨w.heap.size, 0, U⟩)] entersAs (fun n => if dec = true then (4, dd, n, []) else (1, dd, n, ofB l n)) dd (G pa ln pc) (.bool dec) (G ha hn hc) ga gn gc ((zp l).filter fun n => !inI hd n) w2 H2.out.2 (Nat.le_trans (List.length_filter_le _ _) (Nat.le_trans (zdy l) (by decide))) H2.out.1 (fun x _ => by obtain ⟨_, h4, _, _⟩ := zc4 HQ.out.2.1; have h5 := ofB_len l x; cases dec <;> simp <;> omega) (fun x _ w' M hb hM hBM => asks1_any w.heap.size M dd pa ln pc l dec ha hn hc x w' ((HA.out.2.1.below hX2 HA.out.2.1.lt).below hb (Nat.lt_of_lt_of_le HA.out.2.1.lt hX2.size)) hBM (by have h1 := HA.out.2.2; have h2 := hX2.size; omega) HQ.out.1 (by obtain ⟨_, h4, _, _⟩ := zc4 HQ.out.2.1; exact h4) ((zae.wide (((zae.wide (R := fun _ => False) (R' := fun q => w.heap.size ≤ q) ⟨HQ.out.2.2.1, Or.inr (fun _ _ h => h)⟩ (fun b hb => Or.inr hb)).below (HA.out.1.trans (hX2.mono HA.out.1.size))).below hb) (fun b hb' => Or.inl (by subst hb'; have h1 := HA.out.1.size; have h2 := hX2.size; omega)))))).mono ?_)
 rintro e w3 ⟨v3, rfl, hM3, hb3⟩;have hX3 := hX2.trans (hb3.mono hX2.size);have HF : Q (zm w3 w.heap.size v3 (za6 (dd, l, dec, hd)) ∧ Z w.heap.size w w3) := ⟨hM3.mono (by have h1 := HA.out.1.size; have h2 := hX2.size; omega), HA.out.1.trans (hX3.mono HA.out.1.size)⟩;clear hM3 hb3;go_wp2_with fail
 refine kgo hK (by decide +kernel) ((HK.out _ hX3)) (fun jq => ?_);clear hK K;refine rdy 5 (by kernel_rfl) rfl (fun K hK => ?_);go_simp;refine zbb hK (by decide +kernel) ?_;clear hK K jq;refine zbo (by kernel_rfl) ?_ _;go_wp2;go_ret;exact ⟨_, rfl, HF.out.1, HF.out.2⟩
theorem zlk (dd : Int) (pa : Option Addr) (ln pc : Nat) (l : List P3) (dec : Bool) (ha : Option Addr) (hn hc : Nat) (hd : List Int) (w : World) (hln : ln = l.length) (hr : zcb l) (hp : zal w pa l) :
  Calls Try.prog 26 #[.agg #[E J dd, G pa ln pc, .bool dec, G ha hn hc]] w fun e w' => ∃ v', e = .returned v' ∧ zm w' w.heap.size v' (za9 (dd, l, dec, hd)) ∧ Z w.heap.size w w' := by
 have hb0 := zi w (T #[E J dd, G pa ln pc, .bool dec, G ha hn hc] 38);have hbx : Blk (w.alloc (T #[E J dd, G pa ln pc, .bool dec, G ha hn hc] 38)) w.heap.size #[E J dd, G pa ln pc, .bool dec, G ha hn hc] 38 := Blk.new _ _ _;have hsA : w.heap.size < (w.alloc (T #[E J dd, G pa ln pc, .bool dec, G ha hn hc] 38)).heap.size := by simp
 have HQ := zC hln hr hp;clear hln hr hp;go_enter Try.func26, Try.ntmps26
 go_upto_region 1 with fail
 generalize w.alloc (T #[E J dd, G pa ln pc, .bool dec, G ha hn hc] 38) = A at *;have HA := zC hb0 hbx hsA;clear hb0 hbx hsA;have hX1 : Z A.heap.size A A.drew := (Below.refl _ _).drew;have HK : Q (∀ w', Z A.heap.size A w' → (w'.cell? ⟨w.heap.size, 0, U⟩ = some (E J dd) ∧ w'.cell? ⟨w.heap.size, 1, U⟩ = some (G pa ln pc) ∧ w'.cell? ⟨w.heap.size, 2, U⟩ = some (.bool dec) ∧ w'.cell? ⟨w.heap.size, 3, U⟩ = some (G ha hn hc))) := fun w' hb => ⟨(HA.out.2.1.below hb HA.out.2.1.lt).cell 0, (HA.out.2.1.below hb HA.out.2.1.lt).cell 1, (HA.out.2.1.below hb HA.out.2.1.lt).cell 2, (HA.out.2.1.below hb HA.out.2.1.lt).cell 3⟩
 refine zcf (S := fun w' => (w'.cell? ⟨w.heap.size, 0, U⟩ = some (E J dd) ∧ w'.cell? ⟨w.heap.size, 1, U⟩ = some (G pa ln pc) ∧ w'.cell? ⟨w.heap.size, 2, U⟩ = some (.bool dec) ∧ w'.cell? ⟨w.heap.size, 3, U⟩ = some (G ha hn hc))) 5 (by kernel_rfl) (HK.out _ hX1) (fun jq => ?_);refine tks 3 [(0, 3), (1, 4), (2, 5)] (b := ?_) rfl (by decide +kernel) (fun _ _ _ _ _ h => h) ?_ jq ?_;rotate_left 1
 ·iterate 3 (refine zaa.cons (v := ?_) rfl rfl (by rfl) ?_ ?_; rotate_left 1; (intro w h; (try dsimp only at h); go_simp; try with_reducible rfl))
  exact zaa.nil
 refine rdy 3 (by kernel_rfl) rfl (fun K hK => ?_);go_simp;(go_at_call 40; obtain ⟨h1, h4, -, -⟩ := zc4 HQ.out.2.1; refine (zme pa l pc ln A.drew HQ.out.1 h4 h1 (HQ.out.2.2.below (HA.out.1.trans (hX1.mono HA.out.1.size)))).mono ?_; rintro e w2 ⟨v2, rfl, ho2, hb2⟩; rw [HQ.out.2.1.houses] at ho2; obtain ⟨ga, gn, gc, rfl⟩ := ho2.own.slice zai; have hX2 : Z A.heap.size A w2 := hX1.trans (hb2.mono hX1.size); have H2 : Q (zk 1 zv w2 ga (zp l) ∧ gn = (zp l).length) := ⟨(ho2.own.at zai).1, (ho2.own.at zai).2.1⟩; clear ho2 hb2 h1 h4)
 go_wp2_with fail
 refine kgo hK (by decide +kernel) ((HK.out _ hX2)) (fun jq => ?_);clear hK K;refine rdy 4 (by kernel_rfl) rfl (fun K hK => ?_);go_simp;(go_at_call 35; refine (zmp 41 #[] entersAb (fun n => (5, dd, n, [])) dd (G pa ln pc) (.bool dec) (G ha hn hc) ga gn gc (zp l) w2 H2.out.2 (Nat.le_trans (zdy l) (by decide)) H2.out.1 (fun x _ => by simp) (fun x _ w' M hb hM hBM => zpj M dd x w' hBM)).mono ?_)
 rintro e w3 ⟨v3, rfl, hM3, hb3⟩;have hX3 := hX2.trans (hb3.mono hX2.size);have HF : Q (zm w3 w.heap.size v3 (za9 (dd, l, dec, hd)) ∧ Z w.heap.size w w3) := ⟨hM3.mono (by have h1 := HA.out.1.size; have h2 := hX2.size; omega), HA.out.1.trans (hX3.mono HA.out.1.size)⟩;clear hM3 hb3;go_wp2_with fail
 refine kgo hK (by decide +kernel) ((HK.out _ hX3)) (fun jq => ?_);clear hK K;refine rdy 5 (by kernel_rfl) rfl (fun K hK => ?_);go_simp;refine zbb hK (by decide +kernel) ?_;clear hK K jq;refine zbo (by kernel_rfl) ?_ _;go_wp2;go_ret;exact ⟨_, rfl, HF.out.1, HF.out.2⟩
def zd3 (m : Q4) (st : List O4 × List R3 × List Q4 × Bool) (o : O4) : List O4 × List R3 × List Q4 × Bool :=
 if o.1 ≠ m.2.1 ∨ st.2.2.2 = true then (st.1 ++ [o], st.2.1, st.2.2.1, st.2.2.2) else (st.1 ++ (zq m o).1.toList, (zq m o).2.1, (zq m o).2.2, true)
def zbi (m : Q4) (l : List O4) : List O4 × List R3 × List Q4 × Bool := l.foldl (zd3 m) ([], [], [], false)
theorem hall_take (m : Q4) {l : List O4} {k : Nat} (h : k < l.length) : zbi m (l.take (k + 1)) = zd3 m (zbi m (l.take k)) l[k] := by
 unfold zbi
 rw [zax h, List.foldl_append];rfl
theorem zlh (m : Q4) : ∀ (l acc : List O4) (lg : List R3) (s : List Q4), l.foldl (zd3 m) (acc, lg, s, true) = (acc ++ l, lg, s, true)
 | [], acc, lg, s => by simp
 | o :: t, acc, lg, s => by
  rw [List.foldl_cons];have e : zd3 m (acc, lg, s, true) o = (acc ++ [o], lg, s, true) := by unfold zd3; rw [if_pos (Or.inr rfl)]
  rw [e, zlh m t];simp
theorem zi9 (m : Q4) : ∀ (l acc : List O4), l.foldl (zd3 m) (acc, [], [], false) = (match zbx m l with | some x => (acc ++ x.1, x.2.1, x.2.2, true) | none => (acc ++ l, [], [], false))
 | [], acc => by simp [zbx]
 | o :: t, acc => by
  rw [List.foldl_cons];by_cases h : o.1 = m.2.1
  ·have e : zd3 m (acc, [], [], false) o = (acc ++ (zq m o).1.toList, (zq m o).2.1, (zq m o).2.2, true) := by unfold zd3; rw [if_neg (by simp [h])]
   rw [e, zlh];simp only [zbx, if_pos h, List.append_assoc]
  ·have e : zd3 m (acc, [], [], false) o = (acc ++ [o], [], [], false) := by unfold zd3; rw [if_pos (Or.inl h)]
   rw [e, zi9 m t];simp only [zbx, if_neg h]
   cases zbx m t <;> simp
theorem zk7 (m : Q4) (l : List O4) (h : (zbi m l).2.2.2 = false) : (zbi m l).2.1 = [] ∧ (zbi m l).2.2.1 = [] := by
 unfold zbi at *
 rw [zi9 m l []] at *
 cases hx : zbx m l with
 | none => rw [hx] at h; exact ⟨rfl, rfl⟩
 | some x => rw [hx] at h; cases h
theorem head_hall (g : Gh) (m : Q4) : zh g m = (⟨g.log ++ (zbi m g.opn).2.1, g.boot, g.next, (zbi m g.opn).1⟩, if (zbi m g.opn).2.2.2 = true then (zbi m g.opn).2.2.1 else if m.1 = 7 then [(5, m.2.1, m.2.2.1, [])] else []) := by
 unfold zh zbi
 rw [zi9 m g.opn []];cases zbx m g.opn <;> simp
theorem zdr {m : Q4} {o : O4} (h1 : ¬ (m.1 = 2 ∧ o.2.2.1 = false ∧ (inI (zp o.2.1) m.2.2.1 = true ∧ inI o.2.2.2 m.2.2.1 = false))) (h2 : ¬ (m.1 = 3 ∧ o.2.2.1 = false)) (h3 : ¬ (m.1 = 6 ∧ o.2.2.1 = true ∧ (inI (zp o.2.1) m.2.2.1 = true ∧ inI o.2.2.2 m.2.2.1 = false))) (h4 : ¬ (m.1 = 7 ∧ o.2.2.1 = true)) : zq m o = (some o, [], []) := by
 unfold zq
 rw [if_neg h1, if_neg h2, if_neg h3, if_neg h4]
theorem zma {m : Q4} {o : O4} (h1 : m.1 = 2 ∧ o.2.2.1 = false ∧ (inI (zp o.2.1) m.2.2.1 = true ∧ inI o.2.2.2 m.2.2.1 = false)) (ha : (o.2.2.2 ++ [m.2.2.1]).length = (zp o.2.1).length) : zq m o = (some (o.1, o.2.1, true, []), [(5, o.1, o.2.1)], za6 (o.1, o.2.1, true, [])) := by
 unfold zq
 rw [if_pos h1, if_pos ha]
theorem zlv {m : Q4} {o : O4} (h1 : m.1 = 2 ∧ o.2.2.1 = false ∧ (inI (zp o.2.1) m.2.2.1 = true ∧ inI o.2.2.2 m.2.2.1 = false)) (ha : ¬ (o.2.2.2 ++ [m.2.2.1]).length = (zp o.2.1).length) : zq m o = (some (o.1, o.2.1, false, o.2.2.2 ++ [m.2.2.1]), [], []) := by
 unfold zq
 rw [if_pos h1, if_neg ha]
theorem step_no {m : Q4} {o : O4} (h1 : m.1 = 3) (h2 : o.2.2.1 = false) : zq m o = (U, [], za9 o) := by
 unfold zq
 rw [if_neg (fun h => by have := h.1; omega), if_pos ⟨h1, h2⟩]
theorem zl1 {m : Q4} {o : O4} (h1 : m.1 = 6 ∧ o.2.2.1 = true ∧ (inI (zp o.2.1) m.2.2.1 = true ∧ inI o.2.2.2 m.2.2.1 = false)) (ha : (o.2.2.2 ++ [m.2.2.1]).length = (zp o.2.1).length) : zq m o = (U, [(6, o.1, [])], []) := by
 unfold zq
 rw [if_neg (fun h => by have := h.1; have := h1.1; omega), if_neg (fun h => by have := h.1; have := h1.1; omega), if_pos h1, if_pos ha]
theorem zj9 {m : Q4} {o : O4} (h1 : m.1 = 6 ∧ o.2.2.1 = true ∧ (inI (zp o.2.1) m.2.2.1 = true ∧ inI o.2.2.2 m.2.2.1 = false)) (ha : ¬ (o.2.2.2 ++ [m.2.2.1]).length = (zp o.2.1).length) : zq m o = (some (o.1, o.2.1, true, o.2.2.2 ++ [m.2.2.1]), [], []) := by
 unfold zq
 rw [if_neg (fun h => by have := h.1; have := h1.1; omega), if_neg (fun h => by have := h.1; have := h1.1; omega), if_pos h1, if_neg ha]
theorem zkd {m : Q4} {o : O4} (h1 : m.1 = 7) (h2 : o.2.2.1 = true) : zq m o = (some o, [], [(4, m.2.1, m.2.2.1, [])]) := by
 unfold zq
 rw [if_neg (fun h => by have := h.1; omega), if_neg (fun h => by have := h.1; omega), if_neg (fun h => by have := h.1; omega), if_pos ⟨h1, h2⟩]
end Go.Proofs.Ytpcnlifmkhagkaa
