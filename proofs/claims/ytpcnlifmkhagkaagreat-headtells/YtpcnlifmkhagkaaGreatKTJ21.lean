import Derived.Test.YtpcnlifmkhagkaaGreatKTJ18
set_option maxRecDepth 20000
set_option maxHeartbeats 20000000
namespace Go.Proofs.YtpcnlifmkhagkaaGreat
open Go.RowKit
open Go.Value renaming slice → G, int → E
open Go.IntKind renaming i64 → J
open _root_.Option renaming none → U
open Go.Obj renaming cells → T
open Go.RowKit renaming Hid → Q, Below → Z
open Go.World renaming setCell → r
open _root_.List renaming mem_map → kaa, filter_append → kab, append_nil → kac, filter_cons_of_neg → kad
attribute [local go_sem ↓] Go.wp_at_zero Go.wp_at_succ
theorem zo1 (la oa : Option Addr) (nl lc no oc : Nat) (bt nx : Int) (L : List R3) (O : List O4) (Y : List XL) (X : List XO) (pa : Option Addr) (np pc : Nat) (l : List P3) (w : World) (H : zbh (fun _ => False) w la nl Y oa no X L O) (hf : zcf O) (hok : OkL L) (hl : L.length ≤ 400000) (hnp : np = l.length) (hp : zae w pa l) (hr : zcj l) (hb1 : 0 ≤ bt ∧ bt ≤ 1000000) (hb2 : 0 ≤ nx ∧ nx ≤ 1000000) :
  Calls Tryz.prog 21 #[.agg #[G la nl lc, E J bt, E J nx, G oa no oc], G pa np pc] w fun e w' => ∃ v' sv, e = .returned (.tuple #[v', sv, E J (zj ⟨L, bt, nx, O⟩ l).2.2]) ∧ (∀ R : Nat → Prop, (∀ b, R b → b < w.heap.size) → zy R w' v' (zj ⟨L, bt, nx, O⟩ l).1) ∧ zm w' w.heap.size sv (zj ⟨L, bt, nx, O⟩ l).2.1 ∧ Z w.heap.size w w' := by
 have hb0 := zaw w (T #[G la nl lc, E J bt, E J nx, G oa no oc] 29) (T #[G U 0 0, E J 0, E J 0, G U 0 0] 29);have h0 : Blk ((w.alloc (T #[G la nl lc, E J bt, E J nx, G oa no oc] 29)).alloc (T #[G U 0 0, E J 0, E J 0, G U 0 0] 29)) w.heap.size #[G la nl lc, E J bt, E J nx, G oa no oc] 29 := (Blk.new _ _ _).alloc _;have hz0 : Blk ((w.alloc (T #[G la nl lc, E J bt, E J nx, G oa no oc] 29)).alloc (T #[G U 0 0, E J 0, E J 0, G U 0 0] 29)) (w.heap.size + 1) #[G U 0 0, E J 0, E J 0, G U 0 0] 29 := zao _ _ _;have hs0 : ((w.alloc (T #[G la nl lc, E J bt, E J nx, G oa no oc] 29)).alloc (T #[G U 0 0, E J 0, E J 0, G U 0 0] 29)).heap.size = w.heap.size + 2 := by simp
 have hnO : no = O.length := by rw [← H.osays, List.length_map]; exact H.on
 have hnL : nl = L.length := by rw [← H.says, List.length_map]; exact H.ln
 have HQ := zD hnp hp hr ((zc5 hr).2.1);have HG := zD (H.below hb0) hf hok hl;have HW := zC hnO hf.1 hnL;have hno : no ≤ 100000 := by have := hf.1; omega
 clear H hf hok hl hnp hp hr hnO hnL;go_enter Tryz.func21, Tryz.ntmps21
 go_upto_region 1 with fail
 generalize ((w.alloc (T #[G la nl lc, E J bt, E J nx, G oa no oc] 29)).alloc (T #[G U 0 0, E J 0, E J 0, G U 0 0] 29)) = V at *;obtain ⟨x0, x1, x2, x3⟩ := h0.cells4;have l0 := h0.lt;go_wp2_with fail
 refine (zil la oa nl lc no oc bt nx Y X L O V HG.out.1 HG.out.2.1 HG.out.2.2.1 (by have := HG.out.2.2.2; omega)).mono ?_;rintro e w2 ⟨_, rfl, ⟨a2, n2, c2, Y2, a3, n3, c3, X2, rfl, hO2⟩, hbw2⟩;have hn2 : n2 = nl := by rw [(hO2.log.1.at za7).2.1, HW.out.2.2, ← hO2.says, List.length_map]
 subst hn2
 have H1 : Q (zbs w la n2 lc bt nx oa no oc w2.heap.size a2 c2 Y2 L (w2.alloc (T #[G a2 n2 c2, E J bt, E J nx, G a3 n3 c3] 29)) a3 n3 c3 X2 O) := by
  have hbb := zh w2 (T #[G a2 n2 c2, E J bt, E J nx, G a3 n3 c3] 29);have hsz := hbw2.size;exact ⟨(h0.below hbw2 h0.lt).below hbb (by omega), (hz0.below hbw2 hz0.lt).below hbb (by omega), Blk.new _ _ _, (hO2.mono (by omega : w.heap.size + 2 ≤ V.heap.size)).below hbb, (hb0.trans (hbw2.mono hb0.size)).trans (hbb.mono (by omega)), by omega⟩
 clear hO2 hbw2 hb0 hz0 h0 hs0 x0 x1 x2 x3 l0;go_upto_region 2 with fail
 obtain ⟨N7, hN7⟩ : ∃ N7, N7 = w2.heap.size := ⟨_, rfl⟩;rw [← hN7] at H1;generalize w2.alloc (T #[G a2 n2 c2, E J bt, E J nx, G a3 n3 c3] 29) = A at *;rw [← hN7];clear hN7;obtain ⟨nl, hnl'⟩ : ∃ nl, nl = n2 := ⟨_, rfl⟩;subst hnl';obtain ⟨x0, x1, x2, x3⟩ := H1.out.hb.cells4;have l0 := H1.out.hb.lt;by_cases c1 : 12 ≤ no
 ·have HE : Q (zj ⟨L, bt, nx, O⟩ l = (⟨L, bt, nx, O⟩, [], 9)) := by show _ = _; unfold zj; rw [if_pos (Or.inl (by have := HW.out.1; show 11 < O.length; omega))]
  have g1 : decide ((no : Int) ≥ 12) = true := decide_eq_true (by omega);go_upto_region 3 with fail
  obtain ⟨r0, r1, r2, r3⟩ := H1.out.ob.cells4;obtain ⟨t0, t1, t2, t3⟩ := H1.out.rb.cells4;obtain ⟨y0, y1, y2, y3⟩ := H1.out.rb.free4;have lo := H1.out.ob.lt;have lr := H1.out.rb.lt;have z := H1.out.rb;have hk4 := zb0 z (G a2 nl c2) (E J bt) (E J nx) (G a3 n3 c3);obtain ⟨e0, e1, e2, e3⟩ := hk4.1.cells4;have hO : zbg (r (r (r (r A ⟨(w.heap.size + 1), 0, U⟩ (G a2 nl c2)) ⟨(w.heap.size + 1), 1, U⟩ (E J bt)) ⟨(w.heap.size + 1), 2, U⟩ (E J nx)) ⟨(w.heap.size + 1), 3, U⟩ (G a3 n3 c3)) w.heap.size a2 nl c2 Y2 a3 n3 c3 X2 L O := (((((H1.out.hd.mono (by omega : w.heap.size ≤ w.heap.size + 2)).set z (by decide) (by decide) (by decide) (by decide) _).set (z.set 0 _) (by decide) (by decide) (by decide) (by decide) _).set ((z.set 0 _).set 1 _) (by decide) (by decide) (by decide) (by decide) _).set (((z.set 0 _).set 1 _).set 2 _) (by decide) (by decide) (by decide) (by decide) _);have HF : Q ((∀ R : Nat → Prop, (∀ b, R b → b < w.heap.size) → zy R (r (r (r (r A ⟨(w.heap.size + 1), 0, U⟩ (G a2 nl c2)) ⟨(w.heap.size + 1), 1, U⟩ (E J bt)) ⟨(w.heap.size + 1), 2, U⟩ (E J nx)) ⟨(w.heap.size + 1), 3, U⟩ (G a3 n3 c3)) (.agg #[G a2 nl c2, E J bt, E J nx, G a3 n3 c3]) ⟨L, bt, nx, O⟩) ∧ Z w.heap.size w (r (r (r (r A ⟨(w.heap.size + 1), 0, U⟩ (G a2 nl c2)) ⟨(w.heap.size + 1), 1, U⟩ (E J bt)) ⟨(w.heap.size + 1), 2, U⟩ (E J nx)) ⟨(w.heap.size + 1), 3, U⟩ (G a3 n3 c3))) := ⟨fun R hR => hO.v (g := ⟨L, bt, nx, O⟩) hR rfl rfl, H1.out.bel.trans (hk4.2.below H1.out.bel.size (fun b hb => by omega))⟩;clear z hk4 hO
  go_wp2_with fail
  clear r0 r1 r2 r3 t0 t1 t2 t3 y0 y1 y2 y3 lo lr;generalize (r (r (r (r A ⟨(w.heap.size + 1), 0, U⟩ (G a2 nl c2)) ⟨(w.heap.size + 1), 1, U⟩ (E J bt)) ⟨(w.heap.size + 1), 2, U⟩ (E J nx)) ⟨(w.heap.size + 1), 3, U⟩ (G a3 n3 c3)) = Z9 at *;refine bodyPost_ret (v := .tuple #[.agg #[G a2 nl c2, E J bt, E J nx, G a3 n3 c3], G U 0 0, E J 9]) ?_ rfl ⟨_, _, by rw [HE.out], by rw [HE.out]; exact HF.out.1, by rw [HE.out]; exact zm.nil _ _, HF.out.2⟩;simp [results, Tryz.results21, go_sem, e0, e1, e2, e3]
 ·have g1 : decide ((no : Int) ≥ 12) = false := decide_eq_false (by omega)
  by_cases k64 : 63 < nx
  ·have HE : Q (zj ⟨L, bt, nx, O⟩ l = (⟨L, bt, nx, O⟩, [], 9)) := by show _ = _; unfold zj; rw [if_pos (Or.inr k64)]
   have g2 : decide (nx ≥ 64) = true := decide_eq_true (by omega);go_upto_region 3 with fail
   obtain ⟨r0, r1, r2, r3⟩ := H1.out.ob.cells4;obtain ⟨t0, t1, t2, t3⟩ := H1.out.rb.cells4;obtain ⟨y0, y1, y2, y3⟩ := H1.out.rb.free4;have lo := H1.out.ob.lt;have lr := H1.out.rb.lt;have z := H1.out.rb;have hk4 := zb0 z (G a2 nl c2) (E J bt) (E J nx) (G a3 n3 c3);obtain ⟨e0, e1, e2, e3⟩ := hk4.1.cells4;have hO : zbg (r (r (r (r A ⟨(w.heap.size + 1), 0, U⟩ (G a2 nl c2)) ⟨(w.heap.size + 1), 1, U⟩ (E J bt)) ⟨(w.heap.size + 1), 2, U⟩ (E J nx)) ⟨(w.heap.size + 1), 3, U⟩ (G a3 n3 c3)) w.heap.size a2 nl c2 Y2 a3 n3 c3 X2 L O := (((((H1.out.hd.mono (by omega : w.heap.size ≤ w.heap.size + 2)).set z (by decide) (by decide) (by decide) (by decide) _).set (z.set 0 _) (by decide) (by decide) (by decide) (by decide) _).set ((z.set 0 _).set 1 _) (by decide) (by decide) (by decide) (by decide) _).set (((z.set 0 _).set 1 _).set 2 _) (by decide) (by decide) (by decide) (by decide) _);have HF : Q ((∀ R : Nat → Prop, (∀ b, R b → b < w.heap.size) → zy R (r (r (r (r A ⟨(w.heap.size + 1), 0, U⟩ (G a2 nl c2)) ⟨(w.heap.size + 1), 1, U⟩ (E J bt)) ⟨(w.heap.size + 1), 2, U⟩ (E J nx)) ⟨(w.heap.size + 1), 3, U⟩ (G a3 n3 c3)) (.agg #[G a2 nl c2, E J bt, E J nx, G a3 n3 c3]) ⟨L, bt, nx, O⟩) ∧ Z w.heap.size w (r (r (r (r A ⟨(w.heap.size + 1), 0, U⟩ (G a2 nl c2)) ⟨(w.heap.size + 1), 1, U⟩ (E J bt)) ⟨(w.heap.size + 1), 2, U⟩ (E J nx)) ⟨(w.heap.size + 1), 3, U⟩ (G a3 n3 c3))) := ⟨fun R hR => hO.v (g := ⟨L, bt, nx, O⟩) hR rfl rfl, H1.out.bel.trans (hk4.2.below H1.out.bel.size (fun b hb => by omega))⟩;clear z hk4 hO
   go_wp2_with fail
   clear r0 r1 r2 r3 t0 t1 t2 t3 y0 y1 y2 y3 lo lr;generalize (r (r (r (r A ⟨(w.heap.size + 1), 0, U⟩ (G a2 nl c2)) ⟨(w.heap.size + 1), 1, U⟩ (E J bt)) ⟨(w.heap.size + 1), 2, U⟩ (E J nx)) ⟨(w.heap.size + 1), 3, U⟩ (G a3 n3 c3)) = Z9 at *;refine bodyPost_ret (v := .tuple #[.agg #[G a2 nl c2, E J bt, E J nx, G a3 n3 c3], G U 0 0, E J 9]) ?_ rfl ⟨_, _, by rw [HE.out], by rw [HE.out]; exact HF.out.1, by rw [HE.out]; exact zm.nil _ _, HF.out.2⟩;simp [results, Tryz.results21, go_sem, e0, e1, e2, e3]
  ·have HE : Q (zj ⟨L, bt, nx, O⟩ l = (⟨L, bt, nx + 1, O ++ [((64 * bt + nx), l, false, [])]⟩, za4 ((64 * bt + nx), l, false, []), 0)) := by show _ = _; unfold zj; rw [if_neg (by have := HW.out.1; show ¬ (11 < O.length ∨ 63 < nx); omega)]
   have g2 : decide (nx ≥ 64) = false := decide_eq_false (by omega);go_upto_region 4 with fail
   have hX1 : Z A.heap.size A A.drew := (Below.refl _ _).drew;have hX2 : Z A.heap.size A (A.drew.alloc (T #[E J 0, G U 0 0, .bool false, G U 0 0] 58)) := hX1.alloc (by simp) _;have HK : Q (∀ w', Z A.heap.size A w' → (w'.cell? ⟨w.heap.size, 1, U⟩ = some (E J bt) ∧ w'.cell? ⟨w.heap.size, 2, U⟩ = some (E J nx)) ∧ True) := fun w' hb => ⟨⟨(H1.out.hb.below hb H1.out.hb.lt).cell 1, (H1.out.hb.below hb H1.out.hb.lt).cell 2⟩, trivial⟩
   have hw1 : IntKind.i64.wrap (64 * bt) = 64 * bt := by rw [IntKind.wrap_i64]; omega
   have hw2 : IntKind.i64.wrap (64 * bt + nx) = 64 * bt + nx := by rw [IntKind.wrap_i64]; omega
   have hw3 : IntKind.i64.wrap (nx + 1) = nx + 1 := by rw [IntKind.wrap_i64]; omega
   go_cut [8] (fun p wx => ∃ (BO : Nat) (a5 : Option Addr) (c5 : Nat), p = .pointer (some ⟨BO, 0, U⟩) ∧ Q (zbs w la nl lc bt nx oa no oc N7 a2 c2 Y2 L wx a3 n3 c3 X2 O ∧ Blk wx BO #[E J (64 * bt + nx), G a5 np c5, .bool false, G U 0 0] 58 ∧ zai A.heap.size wx a5 l ∧ Z A.heap.size A wx ∧ A.heap.size ≤ BO))
   case first =>
    refine zb9 (S := fun w' => (w'.cell? ⟨w.heap.size, 1, U⟩ = some (E J bt) ∧ w'.cell? ⟨w.heap.size, 2, U⟩ = some (E J nx))) 10 (by kernel_rfl) (HK.out _ hX1).1 (fun hHeld => ?_);refine tks 7 [(0, 21), (3, 24), (1, 22), (4, 25), (2, 23), (5, 26), (6, 27)] (b := ?_) rfl (by decide +kernel) (fun _ _ _ _ _ h => h) ?_ hHeld ?_;rotate_left 1
    ·iterate 7 (refine zo.cons (v := ?_) rfl rfl (by rfl) ?_ ?_; rotate_left 1; (intro w h; (try dsimp only at h); go_simp; try with_reducible rfl))
     exact zo.nil
    refine zeg (rs := [7, 9]) (by kernel_rfl) (by simp) ?_;refine zaz.cons (o := _) rfl (fun K hK => ?_) ?_
    ·go_simp
     (go_at_call 45; refine (zgo pa l pc np _ HQ.out.1 (by have := HQ.out.2.2.2; omega) (HQ.out.2.1.below (H1.out.bel.trans (hX1.mono H1.out.bel.size)))).mono ?_; rintro e wA ⟨a5, c5, rfl, hT5, hbA⟩; have hXA : Z A.heap.size A wA := hX1.trans (hbA.mono hX1.size); have hXAs := hXA.size; have hT5' : zai A.heap.size wA a5 l := hT5.mono hX1.size)
     go_wp2_with fail
     refine kgo hK (by decide +kernel) ((HK.out _ hXA).1) (fun hHeld => ?_);clear hK K;refine tks 1 [(8, 29)] (b := ?_) rfl (by decide +kernel) (fun _ _ _ _ _ h => h) ?_ hHeld ?_;rotate_left 1
     ·iterate 1 (refine zo.cons (v := ?_) rfl rfl (by rfl) ?_ ?_; rotate_left 1; (intro w h; (try dsimp only at h); go_simp; try with_reducible rfl))
      exact zo.nil
     refine rdy 9 (by kernel_rfl) rfl (fun K hK => ?_);go_simp;refine kgo hK (by decide +kernel) ((HK.out _ (hXA.alloc hXAs _)).1) (fun hHeld => ?_);clear hK K;refine rdy 10 (by kernel_rfl) rfl (fun K hK => ?_);go_simp;refine za5 hK (by decide +kernel) ?_;clear hK K hHeld;refine zbd (by kernel_rfl) ?_ _;have hbb := zh wA (T #[E J (64 * bt + nx), G a5 np c5, .bool false, G U 0 0] 58);have hXB := hXA.alloc hXAs (T #[E J (64 * bt + nx), G a5 np c5, .bool false, G U 0 0] 58);have HF : Q (zbs w la nl lc bt nx oa no oc N7 a2 c2 Y2 L (wA.alloc (T #[E J (64 * bt + nx), G a5 np c5, .bool false, G U 0 0] 58)) a3 n3 c3 X2 O ∧ Blk (wA.alloc (T #[E J (64 * bt + nx), G a5 np c5, .bool false, G U 0 0] 58)) wA.heap.size #[E J (64 * bt + nx), G a5 np c5, .bool false, G U 0 0] 58 ∧ zai A.heap.size (wA.alloc (T #[E J (64 * bt + nx), G a5 np c5, .bool false, G U 0 0] 58)) a5 l ∧ Z A.heap.size A (wA.alloc (T #[E J (64 * bt + nx), G a5 np c5, .bool false, G U 0 0] 58)) ∧ A.heap.size ≤ wA.heap.size) := ⟨H1.out.below hXB, Blk.new _ _ _, hT5'.calm (zg.below hbb (Nat.le_refl _)), hXB, hXAs⟩;clear hbb hXB hT5 hT5' hXA hbA;go_wp2_with fail
     go_meet
     case rel => exact ⟨_, a5, c5, rfl, HF⟩
    refine zaz.cons (o := _) rfl (fun K hK => ?_) zaz.nil
    ·go_simp
     refine kgo hK (by decide +kernel) ((HK.out _ hX2).1) (fun hHeld => ?_);clear hK K;refine rdy 7 (by kernel_rfl) rfl (fun K hK => ?_);go_simp;(go_at_call 45; refine (zgo pa l pc np _ HQ.out.1 (by have := HQ.out.2.2.2; omega) (HQ.out.2.1.below (H1.out.bel.trans (hX2.mono H1.out.bel.size)))).mono ?_; rintro e wA ⟨a5, c5, rfl, hT5, hbA⟩; have hXA : Z A.heap.size A wA := hX2.trans (hbA.mono hX2.size); have hXAs := hXA.size; have hT5' : zai A.heap.size wA a5 l := hT5.mono hX2.size)
     go_wp2_with fail
     refine kgo hK (by decide +kernel) ((HK.out _ hXA).1) (fun hHeld => ?_);clear hK K
     have hzB : Blk wA A.heap.size #[E J 0, G U 0 0, .bool false, G U 0 0] 58 := by
      have h := (Blk.new A.drew #[E J 0, G U 0 0, .bool false, G U 0 0] 58).below hbA (by simp)
      simpa using h
     obtain ⟨z0, z1, z2, z3⟩ := hzB.cells4;obtain ⟨q0, q1, q2, q3⟩ := hzB.free4;have hzl := hzB.lt;refine tks 1 [(8, 29)] (b := ?_) rfl (by decide +kernel) (fun _ _ _ _ _ h => h) ?_ hHeld ?_;rotate_left 1
     ·iterate 1 (refine zo.cons (v := ?_) rfl rfl (by rfl) ?_ ?_; rotate_left 1; (intro w h; (try dsimp only at h); go_simp; try with_reducible rfl))
      exact zo.nil
     refine rdy 10 (by kernel_rfl) rfl (fun K hK => ?_);go_simp;refine za5 hK (by decide +kernel) ?_;clear hK K hHeld;refine zbd (by kernel_rfl) ?_ _;have hk4 := zb0 hzB (E J (64 * bt + nx)) (G a5 np c5) (.bool false) (G U 0 0);have hXB := hXA.trans (hk4.2.below hXAs (fun b hb => by subst hb; exact Nat.le_refl _));have HF : Q (zbs w la nl lc bt nx oa no oc N7 a2 c2 Y2 L (r (r (r (r wA ⟨A.heap.size, 0, U⟩ (E J (64 * bt + nx))) ⟨A.heap.size, 1, U⟩ (G a5 np c5)) ⟨A.heap.size, 2, U⟩ (.bool false)) ⟨A.heap.size, 3, U⟩ (G U 0 0)) a3 n3 c3 X2 O ∧ Blk (r (r (r (r wA ⟨A.heap.size, 0, U⟩ (E J (64 * bt + nx))) ⟨A.heap.size, 1, U⟩ (G a5 np c5)) ⟨A.heap.size, 2, U⟩ (.bool false)) ⟨A.heap.size, 3, U⟩ (G U 0 0)) A.heap.size #[E J (64 * bt + nx), G a5 np c5, .bool false, G U 0 0] 58 ∧ zai A.heap.size (r (r (r (r wA ⟨A.heap.size, 0, U⟩ (E J (64 * bt + nx))) ⟨A.heap.size, 1, U⟩ (G a5 np c5)) ⟨A.heap.size, 2, U⟩ (.bool false)) ⟨A.heap.size, 3, U⟩ (G U 0 0)) a5 l ∧ Z A.heap.size A (r (r (r (r wA ⟨A.heap.size, 0, U⟩ (E J (64 * bt + nx))) ⟨A.heap.size, 1, U⟩ (G a5 np c5)) ⟨A.heap.size, 2, U⟩ (.bool false)) ⟨A.heap.size, 3, U⟩ (G U 0 0)) ∧ A.heap.size ≤ A.heap.size) := ⟨H1.out.below hXB, hk4.1, hT5'.calm ((((zg.setCell (a := ⟨A.heap.size, 0, U⟩) hzB (by decide) _).trans (zg.setCell (a := ⟨A.heap.size, 1, U⟩) (hzB.set 0 _) (by decide) _)).trans (zg.setCell (a := ⟨A.heap.size, 2, U⟩) ((hzB.set 0 _).set 1 _) (by decide) _)).trans (zg.setCell (a := ⟨A.heap.size, 3, U⟩) (((hzB.set 0 _).set 1 _).set 2 _) (by decide) _)), hXB, Nat.le_refl _⟩
     clear hk4 hXB hT5 hT5' hXA hbA hzB z0 z1 z2 z3 q0 q1 q2 q3 hzl;generalize (r (r (r (r wA ⟨A.heap.size, 0, U⟩ (E J (64 * bt + nx))) ⟨A.heap.size, 1, U⟩ (G a5 np c5)) ⟨A.heap.size, 2, U⟩ (.bool false)) ⟨A.heap.size, 3, U⟩ (G U 0 0)) = wZ at *;go_wp2_with fail
     go_meet
     case rel => exact ⟨_, a5, c5, rfl, HF⟩
   case rest =>
    obtain ⟨BO, a5, c5, rfl, HC⟩ := hcut;clear HK hX1 hX2 x0 x1 x2 x3 l0;obtain ⟨r0, r1, r2, r3⟩ := HC.out.1.ob.cells4;obtain ⟨o0, o1, o2, o3⟩ := HC.out.2.1.cells4;have lo := HC.out.1.ob.lt;have lb := HC.out.2.1.lt;have hX2l : X2.length ≤ 100000 := by have h1 := HC.out.1.hd.osays; have h2 := HW.out.2.1; rw [← h1, List.length_map] at h2; exact h2
    have hszc : w.heap.size + 2 ≤ wc.heap.size := by have := HC.out.1.rb.lt; omega
    have H6 : Q (zbs w la nl lc bt nx oa no oc N7 a2 c2 Y2 L (wc.alloc (T #[E J (64 * bt + nx), G a5 np c5, .bool false, G U 0 0] 58)) a3 n3 c3 X2 O) := HC.out.1.below (zh wc _);have hne : wc.heap.size ≠ BO := by omega
    go_upto_region 5 with fail
    go_upto_region 6 with (at_builtin; refine zbi zaq oneQ Tryz.underlying27 zd9 rfl (by decide) _ rfl _ _ rfl (w.heap.size + 2) _ X2 rfl H6.out.hd.opn (some ⟨wc.heap.size, 0, U⟩) 1 1 [((64 * bt + nx), ((a5, c5), l), false, ((none, 0), []))] rfl rfl (zi.one (Blk.new wc _ _) (by simp [zaj, ← HQ.out.1])) (by unfold maxLen; simp; omega) (by simp; omega) (by simp; omega) ?_; intro a7 n7 c7 w7 hown7 hn7 hgrow7 hat7; have o7 := H6.out.ob.keptT hgrow7 (H6.out.hd.opn.grownT (by decide)); have p3 := o7.cell 3; have q3 := o7.free 3; have l7 := o7.lt; simp only [List.getElem?_toArray, List.getElem?_cons_zero, List.getElem?_cons_succ] at p3; have H5 : Q _ := H6.out.push hgrow7 hown7 ((HC.out.2.2.1.mono (by have h1 := H1.out.rb.lt; omega)).calm (zg.alloc _ _ _)) (Or.inl rfl); have HBo : Q (Blk (r w7 ⟨N7, 3, U⟩ (G a7 n7 c7)) BO #[E J (64 * bt + nx), G a5 np c5, .bool false, G U 0 0] 58 ∧ zai (w.heap.size + 2) (r w7 ⟨N7, 3, U⟩ (G a7 n7 c7)) a5 l) := ⟨((HC.out.2.1.below (zh wc _) HC.out.2.1.lt).keptNe hgrow7 (fun e => by obtain ⟨_, cs, hB⟩ := H1.out.hd.opn.blk e; have h1 := hB.lt; have h2 := HC.out.2.2.2.2; omega)).setOther (a := ⟨N7, 3, U⟩) (by have h1 := H1.out.ob.lt; have h2 := HC.out.2.2.2.2; simp; omega) _, (((HC.out.2.2.1.mono (by have h1 := H1.out.rb.lt; omega)).calm (zg.alloc _ _ _)).calm (zg.grown hgrow7 (H6.out.hd.opn.grownT (by decide)))).calm (zg.setCell (a := ⟨N7, 3, U⟩) o7 (by decide) _)⟩; clear hn7 hat7 hgrow7 hown7 o7)
    clear p3 q3 l7 o0 o1 o2 o3 r0 r1 r2 r3 lo lb H6;generalize (r w7 ⟨N7, 3, U⟩ (G a7 n7 c7)) = B5 at *;obtain ⟨r0, r1, r2, r3⟩ := H5.out.ob.cells4;have q2 := H5.out.ob.free 2;have lo := H5.out.ob.lt;have ob := H5.out.ob;have H6 : Q (zbg (B5.setCell ⟨N7, 2, U⟩ (E J (nx + 1))) (w.heap.size + 2) a2 nl c2 Y2 a7 n7 c7 (X2 ++ [((64 * bt + nx), ((a5, c5), l), false, ((U, 0), []))]) L (O ++ [((64 * bt + nx), l, false, [])]) ∧ Blk (B5.setCell ⟨N7, 2, U⟩ (E J (nx + 1))) N7 #[G a2 nl c2, E J bt, E J (nx + 1), G a7 n7 c7] 29 ∧ zai (w.heap.size + 2) (B5.setCell ⟨N7, 2, U⟩ (E J (nx + 1))) a5 l ∧ Z w.heap.size w (B5.setCell ⟨N7, 2, U⟩ (E J (nx + 1))) ∧ Blk (B5.setCell ⟨N7, 2, U⟩ (E J (nx + 1))) (w.heap.size + 1) #[G U 0 0, E J 0, E J 0, G U 0 0] 29 ∧ Blk (B5.setCell ⟨N7, 2, U⟩ (E J (nx + 1))) BO #[E J (64 * bt + nx), G a5 np c5, .bool false, G U 0 0] 58) := ⟨H5.out.hd.set ob (by decide) (by decide) (by decide) (by decide) _, ob.set 2 _, HBo.out.2.calm (zg.setCell (a := ⟨N7, 2, U⟩) ob (by decide) _), H5.out.bel.setCell (by have := H5.out.ne; simp; omega) _, H5.out.rb.setOther (a := ⟨N7, 2, U⟩) (by have := H5.out.ne; simp; omega) _, HBo.out.1.setOther (a := ⟨N7, 2, U⟩) (by have h1 := H1.out.ob.lt; have h2 := HC.out.2.2.2.2; simp; omega) _⟩;go_upto_region 7 with fail
    clear r0 r1 r2 r3 q2 lo ob H5 HBo;generalize (B5.setCell ⟨N7, 2, U⟩ (E J (nx + 1))) = B6 at *;have hX1 : Z B6.heap.size B6 B6.drew := (Below.refl _ _).drew;have HK : Q (∀ w', Z B6.heap.size B6 w' → (w'.cell? ⟨N7, 0, U⟩ = some (G a2 nl c2) ∧ w'.cell? ⟨N7, 1, U⟩ = some (E J bt) ∧ w'.cell? ⟨N7, 2, U⟩ = some (E J (nx + 1)) ∧ w'.cell? ⟨N7, 3, U⟩ = some (G a7 n7 c7) ∧ w'.cell? ⟨BO, 0, U⟩ = some (E J (64 * bt + nx)) ∧ w'.cell? ⟨BO, 1, U⟩ = some (G a5 np c5) ∧ w'.cell? ⟨BO, 2, U⟩ = some (.bool false) ∧ w'.cell? ⟨BO, 3, U⟩ = some (G U 0 0))) := fun w' hb => ⟨(H6.out.2.1.below hb H6.out.2.1.lt).cell 0, (H6.out.2.1.below hb H6.out.2.1.lt).cell 1, (H6.out.2.1.below hb H6.out.2.1.lt).cell 2, (H6.out.2.1.below hb H6.out.2.1.lt).cell 3, (H6.out.2.2.2.2.2.below hb H6.out.2.2.2.2.2.lt).cell 0, (H6.out.2.2.2.2.2.below hb H6.out.2.2.2.2.2.lt).cell 1, (H6.out.2.2.2.2.2.below hb H6.out.2.2.2.2.2.lt).cell 2, (H6.out.2.2.2.2.2.below hb H6.out.2.2.2.2.2.lt).cell 3⟩
    refine zb9 (S := fun w' => (w'.cell? ⟨N7, 0, U⟩ = some (G a2 nl c2) ∧ w'.cell? ⟨N7, 1, U⟩ = some (E J bt) ∧ w'.cell? ⟨N7, 2, U⟩ = some (E J (nx + 1)) ∧ w'.cell? ⟨N7, 3, U⟩ = some (G a7 n7 c7) ∧ w'.cell? ⟨BO, 0, U⟩ = some (E J (64 * bt + nx)) ∧ w'.cell? ⟨BO, 1, U⟩ = some (G a5 np c5) ∧ w'.cell? ⟨BO, 2, U⟩ = some (.bool false) ∧ w'.cell? ⟨BO, 3, U⟩ = some (G U 0 0))) 3 (by kernel_rfl) (HK.out _ hX1) (fun hHeld => ?_);refine tks 2 [(0, 40), (1, 41)] (b := ?_) rfl (by decide +kernel) (fun _ _ _ _ _ h => h) ?_ hHeld ?_;rotate_left 1
    ·iterate 2 (refine zo.cons (v := ?_) rfl rfl (by rfl) ?_ ?_; rotate_left 1; (intro w h; (try dsimp only at h); go_simp; try with_reducible rfl))
     exact zo.nil
    refine rdy 2 (by kernel_rfl) rfl (fun K hK => ?_);go_simp;(go_at_call 52; refine (zjz (64 * bt + nx) a5 np c5 l false U 0 0 [] B6.drew HQ.out.1 HQ.out.2.2.1 (H6.out.2.2.1.at.below hX1) rfl (by simp) (Or.inl rfl)).mono ?_; rintro e w9 ⟨v9, rfl, hM9, hb9⟩; have hX9 : Z B6.heap.size B6 w9 := hX1.trans (hb9.mono hX1.size); have hM9' : zm w9 w.heap.size v9 (za4 ((64 * bt + nx), l, false, [])) := hM9.mono (by have h1 := H6.out.2.2.2.1.size; have h2 := hX1.size; omega); clear hM9 hb9)
    go_wp2_with fail
    refine kgo hK (by decide +kernel) ((HK.out _ hX9)) (fun hHeld => ?_);clear hK K;have z := H6.out.2.2.2.2.1.below hX9 H6.out.2.2.2.2.1.lt;obtain ⟨t0, t1, t2, t3⟩ := z.cells4;obtain ⟨y0, y1, y2, y3⟩ := z.free4;have lr := z.lt;refine rdy 3 (by kernel_rfl) rfl (fun K hK => ?_);go_simp;refine za5 hK (by decide +kernel) ?_;clear hK K hHeld;refine rdy 4 (by kernel_rfl) rfl (fun K hK => ?_);go_simp;refine za5 hK (by decide +kernel) ?_;clear hK K;refine rdy 5 (by kernel_rfl) rfl (fun K hK => ?_);go_simp;refine za5 hK (by decide +kernel) ?_;clear hK K;refine zbd (by kernel_rfl) ?_ _;have hk4 := zb0 z (G a2 nl c2) (E J bt) (E J (nx + 1)) (G a7 n7 c7);obtain ⟨e0, e1, e2, e3⟩ := hk4.1.cells4;have hO : zbg (r (r (r (r w9 ⟨(w.heap.size + 1), 0, U⟩ (G a2 nl c2)) ⟨(w.heap.size + 1), 1, U⟩ (E J bt)) ⟨(w.heap.size + 1), 2, U⟩ (E J (nx + 1))) ⟨(w.heap.size + 1), 3, U⟩ (G a7 n7 c7)) w.heap.size a2 nl c2 Y2 a7 n7 c7 (X2 ++ [((64 * bt + nx), ((a5, c5), l), false, ((U, 0), []))]) L (O ++ [((64 * bt + nx), l, false, [])]) := ((((((H6.out.1.below hX9).mono (by omega : w.heap.size ≤ w.heap.size + 2)).set z (by decide) (by decide) (by decide) (by decide) _).set (z.set 0 _) (by decide) (by decide) (by decide) (by decide) _).set ((z.set 0 _).set 1 _) (by decide) (by decide) (by decide) (by decide) _).set (((z.set 0 _).set 1 _).set 2 _) (by decide) (by decide) (by decide) (by decide) _);have hMM : zm (r (r (r (r w9 ⟨(w.heap.size + 1), 0, U⟩ (G a2 nl c2)) ⟨(w.heap.size + 1), 1, U⟩ (E J bt)) ⟨(w.heap.size + 1), 2, U⟩ (E J (nx + 1))) ⟨(w.heap.size + 1), 3, U⟩ (G a7 n7 c7)) w.heap.size v9 (za4 ((64 * bt + nx), l, false, [])) := hM9'.set4 z _ _ _ _
    have HF : Q ((∀ R : Nat → Prop, (∀ b, R b → b < w.heap.size) → zy R (r (r (r (r w9 ⟨(w.heap.size + 1), 0, U⟩ (G a2 nl c2)) ⟨(w.heap.size + 1), 1, U⟩ (E J bt)) ⟨(w.heap.size + 1), 2, U⟩ (E J (nx + 1))) ⟨(w.heap.size + 1), 3, U⟩ (G a7 n7 c7)) (.agg #[G a2 nl c2, E J bt, E J (nx + 1), G a7 n7 c7]) ⟨L, bt, nx + 1, O ++ [((64 * bt + nx), l, false, [])]⟩) ∧ zm (r (r (r (r w9 ⟨(w.heap.size + 1), 0, U⟩ (G a2 nl c2)) ⟨(w.heap.size + 1), 1, U⟩ (E J bt)) ⟨(w.heap.size + 1), 2, U⟩ (E J (nx + 1))) ⟨(w.heap.size + 1), 3, U⟩ (G a7 n7 c7)) w.heap.size v9 (za4 ((64 * bt + nx), l, false, [])) ∧ Z w.heap.size w (r (r (r (r w9 ⟨(w.heap.size + 1), 0, U⟩ (G a2 nl c2)) ⟨(w.heap.size + 1), 1, U⟩ (E J bt)) ⟨(w.heap.size + 1), 2, U⟩ (E J (nx + 1))) ⟨(w.heap.size + 1), 3, U⟩ (G a7 n7 c7))) := ⟨fun R hR => hO.v (g := ⟨L, bt, nx + 1, O ++ [((64 * bt + nx), l, false, [])]⟩) hR rfl rfl, hMM, (H6.out.2.2.2.1.trans (hX9.mono H6.out.2.2.2.1.size)).trans (hk4.2.below (by have h1 := H6.out.2.2.2.1.size; have h2 := hX9.size; omega) (fun b hb => by omega))⟩;clear z hk4 hO hMM hM9' t0 t1 t2 t3 y0 y1 y2 y3 lr;generalize (r (r (r (r w9 ⟨(w.heap.size + 1), 0, U⟩ (G a2 nl c2)) ⟨(w.heap.size + 1), 1, U⟩ (E J bt)) ⟨(w.heap.size + 1), 2, U⟩ (E J (nx + 1))) ⟨(w.heap.size + 1), 3, U⟩ (G a7 n7 c7)) = Z9 at *;go_wp2_with fail
    refine bodyPost_ret (v := .tuple #[.agg #[G a2 nl c2, E J bt, E J (nx + 1), G a7 n7 c7], v9, E J 0]) ?_ rfl ⟨_, _, by rw [HE.out], by rw [HE.out]; exact HF.out.1, by rw [HE.out]; exact HF.out.2.1, HF.out.2.2⟩;simp [results, Tryz.results21, go_sem, e0, e1, e2, e3]
def zes (P : Int → List P3) (d : Int) (l : List P3) : Int → List P3 := fun x => if x = d then l else P x
theorem zh1 {P : Int → List P3} {d : Int} {l : List P3} {x : Int} (h : x < d) : zes P d l x = P x := by unfold zes; rw [if_neg (by omega)]
theorem more_new {P : Int → List P3} {d : Int} {l : List P3} : zes P d l d = l := by unfold zes; rw [if_pos rfl]
theorem Inv.begin {n : Nat} {P : Int → List P3} {W : WW} (I : Inv n P W) {l : List P3} (hw : zax l n = 0) :
  ∃ P', (∀ d, d < za1 W → P' d = P d) ∧ Inv n P' { W with hd := (zj W.hd l).1 } ∧ ∀ q ∈ (zj W.hd l).2.1, zbo n P' { W with hd := (zj W.hd l).1 } q := by
 unfold zj
 by_cases c : 11 < W.hd.opn.length ∨ 63 < W.hd.next
 ·rw [if_pos c]
  exact ⟨P, fun _ _ => rfl, I, fun q hq => by cases hq⟩
 ·rw [if_neg c]
  have hnum := zf2 I;have h0 := I.next0;have hb1 := I.boot1;have hb2 := I.boot20;have hpos : 0 ≤ za1 W := by unfold za1; omega
  have hnew : za1 { W with hd := { W.hd with opn := W.hd.opn ++ [(64 * W.hd.boot + W.hd.next, l, false, [])], next := W.hd.next + 1 } } = za1 W + 1 := by show 64 * W.hd.boot + (W.hd.next + 1) = 64 * W.hd.boot + W.hd.next + 1; omega
  refine ⟨zes P (za1 W) l, fun d hd => zh1 hd, ?_⟩
  have mem : ∀ x, x ∈ W.hd.opn ++ [(64 * W.hd.boot + W.hd.next, l, false, [])] → x ∈ W.hd.opn ∨ x = (za1 W, l, false, []) := fun x hx => by
   rcases List.mem_append.1 hx with hx | hx
   ·exact Or.inl hx
   ·exact Or.inr (List.mem_singleton.1 hx)
  have M : zdu P (zes P (za1 W) l) W { W with hd := { W.hd with opn := W.hd.opn ++ [(64 * W.hd.boot + W.hd.next, l, false, [])], next := W.hd.next + 1 } } := by
   refine zf6 (by rw [hnew]; omega) (fun d hd => zh1 hd) (fun _ h => h) (fun _ _ h _ => h) ?_ ?_
   ·rintro d hd ⟨x, hx, e, hu⟩
    rcases mem x hx with hx | rfl
    ·exact ⟨x, hx, e, hu⟩
    ·exact absurd (show za1 W = d from e) (by omega)
   ·rintro d hd ⟨x, hx, e⟩
    rcases mem x hx with hx | rfl
    ·exact ⟨x, hx, e⟩
    ·exact absurd (show za1 W = d from e) (by omega)
  have hnd : ¬ zbc W (za1 W) := fun ⟨x, hx, e⟩ => by have := (I.dec x hx).2.1; omega
  have O : zgp n (zes P (za1 W) l) { W with hd := { W.hd with opn := W.hd.opn ++ [(64 * W.hd.boot + W.hd.next, l, false, [])], next := W.hd.next + 1 } } (za1 W, l, false, []) :=
   ⟨hpos, by rw [hnew]; show za1 W < _; omega, more_new.symm, hw, List.nodup_nil, (fun k hk => by cases hk), zju I.n3 hw, ⟨(fun h => by cases h), (fun h => absurd h hnd)⟩, (fun _ k hk => by cases hk), (fun h => by cases h)⟩
  have I' : Inv n (zes P (za1 W) l) { W with hd := { W.hd with opn := W.hd.opn ++ [(64 * W.hd.boot + W.hd.next, l, false, [])], next := W.hd.next + 1 } } := by
   refine I.ofHead M I.boot1 I.boot20 (by show 0 ≤ W.hd.next + 1; omega) (by show W.hd.next + 1 ≤ 64; omega) I.bootL (by show (W.hd.opn ++ _).length ≤ 12; rw [List.length_append]; simp; omega) ?_ ?_ ?_ I.decNd I.dr ?_ ?_ I.hlNd I.hlIn
   ·show ((W.hd.opn ++ [((64 * W.hd.boot + W.hd.next, l, false, []) : O4)]).map (fun o : O4 => o.1)).Nodup
    rw [List.map_append, List.nodup_append];refine ⟨I.apart, by simp, fun a ha b hb e => ?_⟩;simp at hb
    obtain ⟨x, hx, e'⟩ := kaa.1 ha;have := (I.opn x hx).old;unfold za1 at this
    omega
   ·intro x hx
    rcases mem x hx with hx | rfl
    ·have Y := I.opn x hx
     exact ⟨Y.pos, Int.lt_of_lt_of_le Y.old M.num, by rw [zh1 Y.old]; exact Y.parts, Y.right, Y.nd, Y.sub, Y.less, Y.dec, Y.rdy, Y.dn⟩
    ·exact O
   ·intro x hx
    obtain ⟨h1, h2, h3, h4⟩ := I.dec x hx;exact ⟨h1, Int.lt_of_lt_of_le h2 M.num, by rw [zh1 h2]; exact h3, h4⟩
   ·intro x hx hno
    exact I.en x hx (fun ⟨y, hy, e⟩ => hno ⟨y, List.mem_append.2 (Or.inl hy), e⟩)
   ·intro d
    rw [I.hl d];constructor
    ·rintro ⟨x, hx, e, hd⟩
     exact ⟨x, List.mem_append.2 (Or.inl hx), e, hd⟩
    ·rintro ⟨x, hx, e, hd⟩
     rcases mem x hx with hx | rfl
     ·exact ⟨x, hx, e, hd⟩
     ·cases hd
  exact ⟨I', fun q hq => zjq I.n3 (zf2 I') O q hq⟩
theorem Inv.fall {n : Nat} {P : Int → List P3} {W : WW} (I : Inv n P W) : Inv n P { W with hd := (zq W.hd).1 } := by
 unfold zq
 by_cases c : 19 < W.hd.boot
 ·rw [if_pos c]; exact I
 ·rw [if_neg c]
  have hD : zan (W.hd.log ++ [(4, 0, [])]) = zan W.hd.log := by rw [zgi, if_neg (show ¬ (4 : Int) = 5 by decide), kac]
  have hH : zaa (W.hd.log ++ [(4, 0, [])]) = ((zaa W.hd.log).1 + 1, (zaa W.hd.log).2) := by rw [zgv]; rfl
  have hO : zn (W.hd.log ++ [(4, 0, [])]) = ⟨W.hd.log ++ [(4, 0, [])], W.hd.boot + 1, 0, (zaa W.hd.log).2.map fun x => (x.1, x.2, true, [])⟩ := by
   unfold zn
   rw [hH, I.bootL]
  rw [hO];have h64 := I.next64;have hb1 := I.boot1;have hnew : za1 { W with hd := ⟨W.hd.log ++ [(4, 0, [])], W.hd.boot + 1, 0, (zaa W.hd.log).2.map fun x => (x.1, x.2, true, [])⟩ } = 64 * (W.hd.boot + 1) + 0 := rfl;have hge : za1 W ≤ 64 * (W.hd.boot + 1) + 0 := by unfold za1; omega
  have hdc : ∀ d, zbc { W with hd := ⟨W.hd.log ++ [(4, 0, [])], W.hd.boot + 1, 0, (zaa W.hd.log).2.map fun x => (x.1, x.2, true, [])⟩ } d ↔ zbc W d := fun d => by
   unfold zbc
   simp only [hD]
  have hop : ∀ d, zdm { W with hd := ⟨W.hd.log ++ [(4, 0, [])], W.hd.boot + 1, 0, (zaa W.hd.log).2.map fun x => (x.1, x.2, true, [])⟩ } d → ∃ o ∈ W.hd.opn, o.1 = d ∧ o.2.2.1 = true := fun d ⟨o, ho, e⟩ => by
   obtain ⟨x, hx, rfl⟩ := kaa.1 ho;exact (I.hl d).1 ⟨x, hx, e⟩
  have M : zdu P P W { W with hd := ⟨W.hd.log ++ [(4, 0, [])], W.hd.boot + 1, 0, (zaa W.hd.log).2.map fun x => (x.1, x.2, true, [])⟩ } := by
   refine zf6 (by rw [hnew]; exact hge) (fun _ _ => rfl) (fun d h => (hdc d).2 h) (fun d _ h _ => (hdc d).1 h) ?_ ?_
   ·rintro d _ ⟨o, ho, e, hu⟩
    obtain ⟨x, hx, rfl⟩ := kaa.1 ho;cases hu
   ·intro d _ h
    obtain ⟨o, ho, e, _⟩ := hop d h;exact ⟨o, ho, e⟩
  refine I.ofHead M (by show 1 ≤ W.hd.boot + 1; omega) (by show W.hd.boot + 1 ≤ 20; omega) (by show (0 : Int) ≤ 0; omega) (by show (0 : Int) ≤ 64; omega) ?_ ?_ ?_ ?_ ?_ ?_ ?_ ?_ ?_ ?_ ?_
  ·show W.hd.boot + 1 = (zaa (W.hd.log ++ [(4, 0, [])])).1; rw [hH, I.bootL]
  ·show ((zaa W.hd.log).2.map fun x => ((x.1, x.2, true, []) : O4)).length ≤ 12
   rw [List.length_map]
   have h1 := zg1 I.hlNd (B := W.hd.opn.map (·.1)) (fun d hd => by
    obtain ⟨x, hx, e⟩ := kaa.1 hd;obtain ⟨o, ho, e', _⟩ := (I.hl d).1 ⟨x, hx, e⟩
    exact kaa.2 ⟨o, ho, e'⟩)
   rw [List.length_map, List.length_map] at h1;have := I.few;omega
  ·show (((zaa W.hd.log).2.map fun x => ((x.1, x.2, true, []) : O4)).map (fun o : O4 => o.1)).Nodup
   rw [List.map_map];exact I.hlNd
  ·intro o ho
   obtain ⟨x, hx, rfl⟩ := kaa.1 ho;have hxD := I.hlIn x hx;obtain ⟨h1, h2, h3, h4⟩ := I.dec x hxD;exact ⟨h1, Int.lt_of_lt_of_le h2 hge, h3, h4, List.nodup_nil, (fun k hk => by cases hk), zju I.n3 h4, ⟨fun _ => (hdc _).2 ⟨x, hxD, rfl⟩, fun _ => rfl⟩, (fun h => by cases h), (fun _ k hk => by cases hk)⟩
  ·show ∀ x ∈ zan (W.hd.log ++ [(4, 0, [])]), _
   rw [hD];intro x hx;obtain ⟨h1, h2, h3, h4⟩ := I.dec x hx;exact ⟨h1, Int.lt_of_lt_of_le h2 hge, h3, h4⟩
  ·show ((zan (W.hd.log ++ [(4, 0, [])])).map (·.1)).Nodup
   rw [hD]; exact I.decNd
  ·show ∀ x ∈ zan (W.hd.log ++ [(4, 0, [])]), _
   rw [hD]; exact I.dr
  ·show ∀ x ∈ zan (W.hd.log ++ [(4, 0, [])]), _
   rw [hD];intro x hx hno;refine I.en x hx (fun ⟨o, ho, e⟩ => hno ?_);have hdt := (I.opn o ho).dec.2 ⟨x, hx, e.symm⟩;obtain ⟨y, hy, e'⟩ := (I.hl x.1).2 ⟨o, ho, e, hdt⟩;exact ⟨(y.1, y.2, true, []), kaa.2 ⟨y, hy, rfl⟩, e'⟩
  ·intro d
   show (∃ x ∈ (zaa (W.hd.log ++ [(4, 0, [])])).2, x.1 = d) ↔ ∃ o ∈ (zaa W.hd.log).2.map fun x => ((x.1, x.2, true, []) : O4), o.1 = d ∧ o.2.2.1 = true
   rw [hH];constructor
   ·rintro ⟨x, hx, e⟩
    exact ⟨(x.1, x.2, true, []), kaa.2 ⟨x, hx, rfl⟩, e, rfl⟩
   ·rintro ⟨o, ho, e, _⟩
    obtain ⟨x, hx, rfl⟩ := kaa.1 ho;exact ⟨x, hx, e⟩
  ·show ((zaa (W.hd.log ++ [(4, 0, [])])).2.map (·.1)).Nodup
   rw [hH]; exact I.hlNd
  ·show ∀ x ∈ (zaa (W.hd.log ++ [(4, 0, [])])).2, x ∈ zan (W.hd.log ++ [(4, 0, [])])
   rw [hH, hD]; exact I.hlIn
theorem Inv.quit {n : Nat} {P : Int → List P3} {W : WW} (I : Inv n P W) : Inv n P { W with hd := (zk W.hd).1 } ∧ ∀ q ∈ (zk W.hd).2, zbo n P { W with hd := (zk W.hd).1 } q := by
 have mem : ∀ x, x ∈ (W.hd.opn.filter fun o => o.2.2.1) ↔ x ∈ W.hd.opn ∧ x.2.2.1 = true := fun x => List.mem_filter
 have M : zdu P P W { W with hd := (zk W.hd).1 } := zf6 (Int.le_refl _) (fun _ _ => rfl) (fun _ h => h) (fun _ _ h _ => h) (fun d _ ⟨x, hx, e, hd⟩ => ⟨x, ((mem x).1 hx).1, e, hd⟩) (fun d _ ⟨x, hx, e⟩ => ⟨x, ((mem x).1 hx).1, e⟩)
 have I' : Inv n P { W with hd := (zk W.hd).1 } := by
  refine I.ofHead M I.boot1 I.boot20 I.next0 I.next64 I.bootL ?_ ?_ ?_ I.dec I.decNd I.dr ?_ ?_ I.hlNd I.hlIn
  ·exact Nat.le_trans (List.length_filter_le _ _) I.few
  ·exact List.Nodup.sublist (List.Sublist.map _ List.filter_sublist) I.apart
  ·intro x hx
   have Y := I.opn x ((mem x).1 hx).1;exact ⟨Y.pos, Y.old, Y.parts, Y.right, Y.nd, Y.sub, Y.less, Y.dec, Y.rdy, Y.dn⟩
  ·intro x hx hno
   refine I.en x hx (fun ⟨o, ho, e⟩ => hno ⟨o, (mem o).2 ⟨ho, (I.opn o ho).dec.2 ⟨x, hx, e.symm⟩⟩, e⟩)
  ·intro d
   show (∃ x ∈ (zaa W.hd.log).2, x.1 = d) ↔ ∃ o ∈ (W.hd.opn.filter fun o => o.2.2.1), o.1 = d ∧ o.2.2.1 = true
   rw [I.hl d];constructor
   ·rintro ⟨x, hx, e, hd⟩
    exact ⟨x, (mem x).2 ⟨hx, hd⟩, e, hd⟩
   ·rintro ⟨x, hx, e, hd⟩
    exact ⟨x, ((mem x).1 hx).1, e, hd⟩
 refine ⟨I', fun q hq => ?_⟩;obtain ⟨o, ho, hq⟩ := List.mem_flatMap.1 hq;obtain ⟨ho, hu⟩ := List.mem_filter.1 ho;have hu' : o.2.2.1 = false := by simpa using hu
 have O := I.opn o ho;refine zkq (P := P) (W := { W with hd := (zk W.hd).1 }) I.n3 (zf2 I') O.pos O.old O.right (fun ⟨x, hx, e⟩ => ?_) (fun h => ?_) q hq
 ·have hxo := zlq I.apart x ((mem x).1 hx).1 o ho e
  have := ((mem x).1 hx).2;rw [hxo, hu'] at this;cases this
 ·have := O.dec.2 h
  rw [hu'] at this;cases this
theorem Inv.tick {n : Nat} {P : Int → List P3} {W : WW} (I : Inv n P W) : ∀ q ∈ zdj W.hd, zbo n P W q := fun q hq => by
 obtain ⟨o, ho, hq⟩ := List.mem_flatMap.1 hq;exact zjq I.n3 (zf2 I) (I.opn o ho) q hq
theorem Inv.asks {n : Nat} {P : Int → List P3} {W : WW} (I : Inv n P W) {k : Int} (h0 : 0 ≤ k) (hk : k < n) : ∀ q ∈ askW (zd (W.at k)).2.1 k, zbo n P W q := fun q hq => by
 obtain ⟨x, hx, rfl⟩ := kaa.1 hq;have zY := I.hou k h0 hk;have h1 := zY.old x hx;have h2 := zf2 I;have h3 := zY.good.lone.pos x hx;have h4 := I.n3;exact ⟨by unfold za9; simp; omega, hk, h1, fun h => absurd h (by simp), fun h => absurd h (by simp), fun h => absurd h (by simp), fun h => absurd h (by simp), fun h => absurd h (by simp), fun _ => (zY.parts x hx).2⟩
theorem ziu {n : Nat} (hn : n ≤ 3) (P : Int → List P3) : Inv n P (zay n) := by
 have e : zn [(4, 0, [])] = ⟨[(4, 0, [])], 1, 0, []⟩ := rfl
 have hat : ∀ k, (zay n).at k = [] := fun k => by
  unfold WW.at zay
  simp only [List.getD_eq_getElem?_getD, List.getElem?_replicate]
  split <;> rfl
 refine ⟨hn, by simp [zay], by simp [zay, e], by simp [zay, e], by simp [zay, e], by simp [zay, e], rfl, by simp [zay], by simp [zay, e], by simp [zay, e], (fun o ho => by simp [zay, e] at ho), (fun x hx => by simp [zay, e, zan] at hx), by simp [zay, e, zan], (fun x hx => by simp [zay, e, zan] at hx), (fun x hx => by simp [zay, e, zan] at hx), ?_, by simp [zay, e, zaa, zdc], (fun x hx => by simp [zay, e, zaa, zdc] at hx), (fun m hm => by simp [zay] at hm), ?_⟩
 ·intro d
  simp [zay, e, zaa, zdc]
 ·intro k _ _
  exact ⟨by rw [hat]; exact good_nil, by rw [hat]; simp [zd], by rw [hat]; simp [zd], by rw [hat]; simp [zd], by rw [hat]; simp [zd], by rw [hat]; simp [zd], by rw [hat]; simp [zd]⟩
theorem Inv.come {n : Nat} {P : Int → List P3} {W : WW} (I : Inv n P W) {m : Q4} (hm : zbo n P W m) : Inv n P (zd5 W m) := by
 unfold zd5
 split
 ·split
  ·rename_i hk
   obtain ⟨I', h⟩ := I.hear hm hk;exact I'.send h
  ·obtain ⟨I', h⟩ := I.head hm
   exact I'.send h
 ·exact I
theorem Inv.step {n : Nat} {P : Int → List P3} {W : WW} (I : Inv n P W) (s : Int × Int × List P3) : ∃ P', (∀ d, d < za1 W → P' d = P d) ∧ Inv n P' (zl W s).1 := by
 unfold zl
 split
 ·split
  ·rename_i hw
   rw [I.len] at hw;obtain ⟨P', h1, h2, h3⟩ := I.begin hw;exact ⟨P', h1, h2.send h3⟩
  ·exact ⟨P, fun _ _ => rfl, I⟩
 refine ⟨P, fun _ _ => rfl, ?_⟩;split
 ·split
  ·cases hg : W.net[s.2.1.toNat]? with
   | none => exact I
   | some m =>
    have hmem := List.mem_of_getElem? hg;have hm := I.net m hmem;simp only
    split
    ·refine I.netOf ?_ ?_
     ·split
      ·rw [List.length_append]; simp; omega
      ·exact I.small
     ·intro q hq
      split at hq
      ·rcases List.mem_append.1 hq with hq | hq
       ·exact I.net q hq
       ·rw [List.mem_singleton.1 hq]; exact hm
      ·exact I.net q hq
    ·have I2 : Inv n P { W with net := W.net.eraseIdx s.2.1.toNat } := I.netOf (Nat.le_trans (List.length_eraseIdx_le _ _) I.small) (fun q hq => I.net q (List.mem_of_mem_eraseIdx hq))
     split
     ·exact I2
     ·exact I2.come ⟨hm.right, hm.here, hm.old, hm.prep, hm.yes, hm.com, hm.abo, hm.ack, hm.ask⟩
  ·exact I
 split
 ·split
  ·exact I.fall
  ·split
   ·exact I
   ·exact I
 split
 ·split
  ·exact I.send I.tick
  ·split
   ·exact I
   ·rename_i h1 h2
    rw [I.len] at h2;exact I.send (I.asks (by omega) (by omega))
 split
 ·obtain ⟨h1, h2⟩ := I.quit
  exact h1.send h2
 ·exact I
theorem inv_play {n : Nat} (hn : n ≤ 3) (l : List (Int × Int × List P3)) : ∃ P, Inv n P (zat n l) := by
 unfold zat
 suffices h : ∀ (l : List (Int × Int × List P3)) (W : WW), (∃ P, Inv n P W) → ∃ P, Inv n P (l.foldl (fun W s => (zl W s).1) W) from h _ _ ⟨fun _ => [], ziu hn _⟩
 intro l
 induction l with
 | nil => exact fun W h => h
 | cons s t ih =>
  intro W ⟨P, I⟩;obtain ⟨P', _, I'⟩ := I.step s;exact ih _ ⟨P', I'⟩
def zc9 (W : WW) (d : Int) : Bool := zab (zan W.hd.log) d
theorem zi7 {W : WW} {d : Int} : zc9 W d = true ↔ zbc W d := hasD_mem
theorem zjx {W : WW} {d : Int} (h : ¬ zbc W d) : zc9 W d = false := by
 cases hb : zc9 W d
 ·rfl
 ·exact absurd (zi7.1 hb) h
def vS (W : WW) (k : Int) : S4 := doB (zd (W.at k)).1 (((zd (W.at k)).2.1.filter fun x => zc9 W x.1).flatMap (·.2))
abbrev zf9 (n : Nat) : List S4 := List.replicate n (0, 0, 0, 0)
structure zda (n : Nat) (W : WW) : Prop where
 errs : ∀ e ∈ zgc (zf9 n) ((zan W.hd.log).map (·.2)), e = 0
 sums : ∀ k, k < n → (zd1 (zf9 n) ((zan W.hd.log).map (·.2)))[k]? = some (vS W k)
theorem zka {l m : List P3} (h : l.Perm m) (s : S4) : doB s l = doB s m := h.foldl_eq' (fun x _ y _ z => zll z x y) s
theorem doB_app (s : S4) (l m : List P3) : doB s (l ++ m) = doB (doB s l) m := by simp [doB]
theorem ze3 {n : Nat} {W W' : WW} (zQ : zda n W) (hs : W'.hs = W.hs) (hD : zan W'.hd.log = zan W.hd.log) : zda n W' := by
 have hv : ∀ k, vS W' k = vS W k := fun k => by
  unfold vS zc9 WW.at
  rw [hs, hD]
 exact ⟨by rw [hD]; exact zQ.errs, fun k hk => by rw [hD, hv]; exact zQ.sums k hk⟩
theorem zjs {n : Nat} {W : WW} (zQ : zda n W) {k : Int} (hk : k.toNat < W.hs.length) (hk0 : 0 ≤ k) {L : List R3} (hv : vS (W.put k L) k = vS W k) : zda n (W.put k L) := by
 refine ⟨zQ.errs, fun j hj => ?_⟩;show (zd1 (zf9 n) ((zan W.hd.log).map (·.2)))[j]? = some (vS (W.put k L) j)
 rw [zQ.sums j hj];by_cases e : (j : Int) = k
 ·rw [e, hv]
 ·have ea : (W.put k L).at j = W.at j := by rw [zgy hk, if_neg (by omega)]
  unfold vS
  rw [ea];rfl
theorem zj3 {D : List D2} {d : Int} (nd : (D.map (·.1)).Nodup) (h : zab D d = true) : ∃ A l B, D = A ++ (d, l) :: B ∧ zcg D d = l ∧ zal D d = A ++ B ∧ (∀ y, y ∈ A ∨ y ∈ B → y.1 ≠ d) := by
 obtain ⟨A, x, B, hD, hx, hA, hf⟩ := zjd h;subst hx
 have hB : ∀ y ∈ B, y.1 ≠ x.1 := by
  rw [hD, List.map_append, List.map_cons, List.nodup_append, List.nodup_cons] at nd;exact fun y hy e => nd.2.1.1 (e ▸ kaa.2 ⟨y, hy, rfl⟩)
 refine ⟨A, x.2, B, hD, hf, ?_, fun y hy => hy.elim (hA y) (hB y)⟩;rw [hD];unfold zal
 rw [kab, kad (by simp)];rw [List.filter_eq_self.2 (fun y hy => by simpa using hA y hy), List.filter_eq_self.2 (fun y hy => by simpa using hB y hy)]
theorem even_hear {n : Nat} {P : Int → List P3} {W : WW} (I : Inv n P W) (zQ : zda n W) {m : Q4} (hm : zbo n P W m) : zda n (W.put m.2.2.1 (zp (W.at m.2.2.1) m.1 m.2.1 m.2.2.2)) := by
 obtain ⟨kd, d, k, l⟩ := m;have hr := hm.right;have hhere := hm.here;have hprep := hm.prep;have hcom := hm.com;have habo := hm.abo;simp only at hr hhere hprep hcom habo ⊢
 have hk0 : 0 ≤ k := by
  unfold za9 at hr
  split at hr
  ·cases hr
  ·split at hr
   ·cases hr
   ·omega
 have hkl : k.toNat < W.hs.length := by rw [I.len]; omega
 have zY := I.hou k hk0 hhere;have hself : ∀ L, (W.put k L).at k = L := fun L => by rw [zgy hkl, if_pos rfl]
 rcases zjn (zd (W.at k)) kd d l with h | ⟨rfl, hv, hn, h⟩ | ⟨rfl, hn, h⟩ | ⟨rfl, hn, h⟩
 ·rw [ze7 h, zk7 W k hkl]; exact zQ
 ·rw [zd7 h]
  have hnd : ¬ zbc W d := fun ⟨x, hx, e⟩ => by
   have hp := (I.dec x hx).2.2.1;rcases I.dr x hx k (by rw [hp, e]; exact (hprep rfl).2) with h1 | h1
   ·unfold zdy at h1; rw [e, hn] at h1; cases h1
   ·unfold dnW at h1; rw [e, (zjk hv).1] at h1; cases h1
  refine zjs zQ hkl hk0 ?_;have hB : zd (W.at k ++ [(1, d, l)]) = ((zd (W.at k)).1, (zd (W.at k)).2.1 ++ [(d, l)], (zd (W.at k)).2.2) := by rw [zer, hstep1 hn]
  unfold vS
  rw [hself, hB];show doB (zd (W.at k)).1 ((((zd (W.at k)).2.1 ++ [(d, l)]).filter fun x => zc9 W x.1).flatMap (·.2)) = _
  rw [kab, kad (by rw [zjx hnd]; simp), List.filter_nil, kac]
 ·rw [zd7 h]
  have hc := (hcom rfl).1;refine zjs zQ hkl hk0 ?_;have hB : zd (W.at k ++ [(2, d, [])]) = (doB (zd (W.at k)).1 (zcg (zd (W.at k)).2.1 d), zal (zd (W.at k)).2.1 d, (zd (W.at k)).2.2 ++ [d]) := by rw [zer, hstep2 hn]
  obtain ⟨A, l', B, hD, hf, hdr, _⟩ := zj3 zY.good.lone.nd hn;unfold vS
  rw [hself, hB];show doB (doB (zd (W.at k)).1 (zcg (zd (W.at k)).2.1 d)) (((zal (zd (W.at k)).2.1 d).filter fun x => zc9 W x.1).flatMap (·.2)) = _
  rw [hf, hdr, hD, ← doB_app];refine zka ?_ _;rw [kab, kab, List.filter_cons_of_pos (p := fun x : D2 => zc9 W x.1) (a := (d, l')) (zi7.2 hc), List.flatMap_append, List.flatMap_append, List.flatMap_cons];exact List.perm_append_comm_assoc _ _ _
 ·rw [zd7 h]
  have hnd : ¬ zbc W d := fun hc => by
   have h1 := (habo rfl).2 hc;have := zY.apart d (zc6.1 h1);rw [hn] at this;cases this
  refine zjs zQ hkl hk0 ?_;have hB : zd (W.at k ++ [(3, d, [])]) = ((zd (W.at k)).1, zal (zd (W.at k)).2.1 d, (zd (W.at k)).2.2) := by rw [zer, hstep3]
  obtain ⟨A, l', B, hD, hf, hdr, _⟩ := zj3 zY.good.lone.nd hn;unfold vS
  rw [hself, hB];show doB (zd (W.at k)).1 (((zal (zd (W.at k)).2.1 d).filter fun x => zc9 W x.1).flatMap (·.2)) = _
  rw [hdr, hD, kab, kab, kad (by rw [zjx hnd]; simp)]
theorem zpu {n : Nat} {P : Int → List P3} {W W' : WW} (I : Inv n P W) (I' : Inv n P W') (zQ : zda n W) (hs : W'.hs = W.hs) {x : D2} (hD : zan W'.hd.log = zan W.hd.log ++ [x]) : zda n W' := by
 obtain ⟨d, l⟩ := x;have hx : (d, l) ∈ zan W'.hd.log := by rw [hD]; simp
 obtain ⟨_, _, hlP, hlr⟩ := I'.dec _ hx;simp only at hlP hlr
 have hnd : ¬ zbc W d := fun h => by
  have := I'.decNd;rw [hD, List.map_append, List.nodup_append] at this;exact this.2.2 d (dcd_iff.1 h) d (by simp) rfl
 have hat : ∀ k, W'.at k = W.at k := fun k => by unfold WW.at; rw [hs]
 have hdec : ∀ e, zc9 W' e = (zc9 W e || decide (d = e)) := fun e => by unfold zc9; rw [hD, zg6]
 have hM : (zd1 (zf9 n) ((zan W.hd.log).map (·.2))).length = n := by rw [zk8]; simp
 have hget : ∀ k (hk : k < n), (zd1 (zf9 n) ((zan W.hd.log).map (·.2)))[k]'(by rw [hM]; exact hk) = vS W k := fun k hk => by
  have := zQ.sums k hk;rw [List.getElem?_eq_getElem (by rw [hM]; exact hk)] at this;exact Option.some.inj this
 have hrd : ∀ k : Nat, k < n → (k : Int) ∈ zr l → ∃ A B, (zd (W.at k)).2.1 = A ++ (d, ofB l k) :: B ∧ (∀ y, y ∈ A ∨ y ∈ B → y.1 ≠ d) := fun k hk hkh => by
  have zY := I.hou k (by omega) (by omega)
  have h1 : zab (zd (W.at k)).2.1 d = true := by
   rcases I'.dr _ hx k hkh with h | h
   ·unfold zdy at h; rw [hat] at h; exact h
   ·unfold dnW at h; rw [hat] at h; exact absurd (zY.done d (zc6.1 h)).1 hnd
  obtain ⟨A, l', B, hDk, hf, _, ho⟩ := zj3 zY.good.lone.nd h1;refine ⟨A, B, ?_, ho⟩;have := (zY.parts (d, l') (by rw [hDk]; simp)).1;simp only at this
  rw [hlP, ← this];exact hDk
 have hno : ∀ k : Nat, k < n → (k : Int) ∉ zr l → ofB l k = [] ∧ ∀ y ∈ (zd (W.at k)).2.1, y.1 ≠ d := fun k hk hkh => by
  have zY := I.hou k (by omega) (by omega);have h3 := I.n3;refine ⟨?_, fun y hy e => hkh ?_⟩
  ·rcases Nat.eq_zero_or_pos (ofB l k).length with h | h
   ·exact List.eq_nil_of_length_eq_zero h
   ·exact absurd (zjr.2 ⟨by omega, h⟩) hkh
  ·have := (zY.parts y hy).2
   rw [e, ← hlP] at this;exact this
 have herr : errM (zd1 (zf9 n) ((zan W.hd.log).map (·.2))) l = 0 := by
  unfold errM
  rw [zi2];intro k hk;have hkn : k < n := by rw [hM] at hk; exact hk
  rw [hget k hkn, Nat.zero_add];show zco (vS W k) (ofB l k) = 0
  by_cases hkh : (k : Int) ∈ zr l
  ·obtain ⟨A, B, hDk, ho⟩ := hrd k hkn hkh
   have zY := I.hou k (by omega) (by omega);rw [zi8];intro p hp hkey;have hin : (d, ofB l k) ∈ (zd (W.at k)).2.1 := by rw [hDk]; simp
   have hfit := zY.good.lone.fits _ hin p hp
   have hnone : za8 (vS W k) p.2.1 = za8 (zd (W.at k)).1 p.2.1 := by
    unfold vS
    refine zia hkey (fun q hq => ?_);obtain ⟨y, hy, hqy⟩ := List.mem_flatMap.1 hq;obtain ⟨hyD, hyd⟩ := List.mem_filter.1 hy;have hyne : y.1 ≠ d := fun e => hnd (zi7.1 (by rw [← e]; exact hyd))
    exact zjh zY.good.lone.sep y hyD _ hin hyne q hqy p hp
   rw [hnone];exact hfit
  ·rw [(hno k hkn hkh).1]
   rfl
 refine ⟨?_, fun k hk => ?_⟩
 ·rw [hD, List.map_append]
  intro e he;rw [show ([(d, l)] : List D2).map (·.2) = [l] from rfl, zmq] at he;rcases List.mem_append.1 he with he | he
  ·exact zQ.errs e he
  ·rw [List.mem_singleton.1 he]; exact herr
 ·rw [hD, List.map_append, show ([(d, l)] : List D2).map (·.2) = [l] from rfl, zlr]
  unfold doM
  rw [if_pos herr, List.getElem?_eq_getElem (by rw [ziq, hM]; exact hk)];congr 1
  rw [zmo l 0 _ k (by rw [hM]; exact hk), hget k hk, Nat.zero_add];show doB (vS W k) (ofB l k) = vS W' k
  unfold vS
  rw [hat, ← doB_app];by_cases hkh : (k : Int) ∈ zr l
  ·obtain ⟨A, B, hDk, ho⟩ := hrd k hk hkh
   rw [hDk];refine zka ?_ _;have fA : A.filter (fun x => zc9 W' x.1) = A.filter (fun x => zc9 W x.1) := List.filter_congr (fun y hy => by rw [hdec, decide_eq_false (fun e => ho y (Or.inl hy) e.symm), Bool.or_false]);have fB : B.filter (fun x => zc9 W' x.1) = B.filter (fun x => zc9 W x.1) := List.filter_congr (fun y hy => by rw [hdec, decide_eq_false (fun e => ho y (Or.inr hy) e.symm), Bool.or_false]);rw [kab, kad (by rw [zjx hnd]; simp), kab, List.filter_cons_of_pos (by rw [hdec]; simp), fA, fB];rw [List.flatMap_append, List.flatMap_append, List.flatMap_cons, List.append_assoc];exact List.Perm.append_left _ List.perm_append_comm
  ·obtain ⟨h1, h2⟩ := hno k hk hkh
   rw [h1, kac];have : (zd (W.at k)).2.1.filter (fun x => zc9 W' x.1) = (zd (W.at k)).2.1.filter (fun x => zc9 W x.1) := List.filter_congr (fun y hy => by rw [hdec, decide_eq_false (fun e => h2 y hy e.symm), Bool.or_false]);rw [this]
theorem zgl (m : Q4) (o : O4) : (zv m o).2.1 = [] ∨ (zv m o).2.1 = [(5, o.1, o.2.1)] ∨ (zv m o).2.1 = [(6, o.1, [])] := by
 unfold zv
 repeat' split
 all_goals simp
theorem even_head {n : Nat} {P : Int → List P3} {W : WW} (I : Inv n P W) (zQ : zda n W) {m : Q4} (hm : zbo n P W m) : zda n { W with hd := (zc W.hd m).1 } := by
 have I' := (I.head hm).1;revert I'
 unfold zc
 cases hh : zb2 m W.hd.opn with
 | none => exact fun _ => zQ
 | some x =>
  obtain ⟨A, o, B, ho, eo, rfl⟩ := zfe hh;simp only
  intro I';rcases zgl m o with e | e | e
  ·exact ze3 zQ rfl (by show zan (W.hd.log ++ (zv m o).2.1) = _; rw [e, kac])
  ·exact zpu I I' zQ rfl (x := (o.1, o.2.1)) (by show zan (W.hd.log ++ (zv m o).2.1) = _; rw [e, zgi, if_pos rfl])
  ·exact ze3 zQ rfl (by show zan (W.hd.log ++ (zv m o).2.1) = _; rw [e, zgi, if_neg (show ¬ (6 : Int) = 5 by decide), kac])
theorem even_come {n : Nat} {P : Int → List P3} {W : WW} (I : Inv n P W) (zQ : zda n W) {m : Q4} (hm : zbo n P W m) : zda n (zd5 W m) := by
 unfold zd5
 split
 ·split
  ·exact ze3 (even_hear I zQ hm) rfl rfl
  ·exact ze3 (even_head I zQ hm) rfl rfl
 ·exact zQ
theorem even_step {n : Nat} {P : Int → List P3} {W : WW} (I : Inv n P W) (zQ : zda n W) (s : Int × Int × List P3) : zda n (zl W s).1 := by
 unfold zl
 split
 ·split
  ·refine ze3 zQ rfl ?_
   show zan (zj W.hd s.2.2).1.log = _
   unfold zj
   split <;> rfl
  ·exact zQ
 split
 ·split
  ·cases hg : W.net[s.2.1.toNat]? with
   | none => exact zQ
   | some m =>
    have hm := I.net m (List.mem_of_getElem? hg);simp only
    split
    ·exact ze3 zQ rfl rfl
    ·split
     ·exact ze3 zQ rfl rfl
     ·have I2 : Inv n P { W with net := W.net.eraseIdx s.2.1.toNat } := I.netOf (Nat.le_trans (List.length_eraseIdx_le _ _) I.small) (fun q hq => I.net q (List.mem_of_mem_eraseIdx hq))
      exact even_come I2 (ze3 zQ rfl rfl) ⟨hm.right, hm.here, hm.old, hm.prep, hm.yes, hm.com, hm.abo, hm.ack, hm.ask⟩
  ·exact zQ
 split
 ·split
  ·refine ze3 zQ rfl ?_
   show zan (zq W.hd).1.log = _
   unfold zq
   split
   ·rfl
   ·show zan (W.hd.log ++ [(4, 0, [])]) = _
    rw [zgi, if_neg (show ¬ (4 : Int) = 5 by decide), kac]
  ·split <;> exact zQ
 split
 ·split
  ·exact ze3 zQ rfl rfl
  ·split
   ·exact zQ
   ·exact ze3 zQ rfl rfl
 split
 ·exact ze3 zQ rfl rfl
 ·exact zQ
theorem even_new (n : Nat) : zda n (zay n) := by
 have hD : zan (zay n).hd.log = [] := rfl;refine ⟨by rw [hD]; simp [zgc], fun k hk => ?_⟩
 have hat : (zay n).at k = [] := by
  unfold WW.at zay
  simp only [List.getD_eq_getElem?_getD, List.getElem?_replicate]
  split <;> rfl
 rw [hD];unfold vS
 rw [hat];simp [zd1, zf9, hk, zd, doB]
theorem zow {n : Nat} (hn : n ≤ 3) (l : List (Int × Int × List P3)) : ∃ P, Inv n P (zat n l) ∧ zda n (zat n l) := by
 unfold zat
 suffices h : ∀ (l : List (Int × Int × List P3)) (W : WW), (∃ P, Inv n P W ∧ zda n W) → ∃ P, Inv n P (l.foldl (fun W s => (zl W s).1) W) ∧ zda n (l.foldl (fun W s => (zl W s).1) W) from h _ _ ⟨fun _ => [], ziu hn _, even_new n⟩
 intro l
 induction l with
 | nil => exact fun W h => h
 | cons s t ih =>
  intro W ⟨P, I, zQ⟩;obtain ⟨P', _, I'⟩ := I.step s;exact ih _ ⟨P', I', even_step I zQ s⟩
theorem Blk.cells6 {w : World} {N : Nat} {zV : TypeId} {c0 c1 c2 c3 c4 c5 : Value} (h : Blk w N #[c0, c1, c2, c3, c4, c5] zV) : w.cell? ⟨N, 0, U⟩ = some c0 ∧ w.cell? ⟨N, 1, U⟩ = some c1 ∧ w.cell? ⟨N, 2, U⟩ = some c2 ∧ w.cell? ⟨N, 3, U⟩ = some c3 ∧ w.cell? ⟨N, 4, U⟩ = some c4 ∧ w.cell? ⟨N, 5, U⟩ = some c5 := ⟨h.cell 0, h.cell 1, h.cell 2, h.cell 3, h.cell 4, h.cell 5⟩
theorem Blk.free6 {w : World} {N : Nat} {zV : TypeId} {c0 c1 c2 c3 c4 c5 : Value} (h : Blk w N #[c0, c1, c2, c3, c4, c5] zV) : w.frozen? ⟨N, 0, U⟩ = false ∧ w.frozen? ⟨N, 1, U⟩ = false ∧ w.frozen? ⟨N, 2, U⟩ = false ∧ w.frozen? ⟨N, 3, U⟩ = false ∧ w.frozen? ⟨N, 4, U⟩ = false ∧ w.frozen? ⟨N, 5, U⟩ = false := ⟨h.free 0, h.free 1, h.free 2, h.free 3, h.free 4, h.free 5⟩
theorem zhd {w : World} {N : Nat} {zV : TypeId} {c0 c1 c2 c3 c4 c5 : Value} (hb : Blk w N #[c0, c1, c2, c3, c4, c5] zV) (v0 v1 v2 v3 v4 v5 : Value) :
  Blk (r (r (r (r (r (r w ⟨N, 0, U⟩ v0) ⟨N, 1, U⟩ v1) ⟨N, 2, U⟩ v2) ⟨N, 3, U⟩ v3) ⟨N, 4, U⟩ v4) ⟨N, 5, U⟩ v5) N #[v0, v1, v2, v3, v4, v5] zV ∧
  zf (fun b => b = N) w (r (r (r (r (r (r w ⟨N, 0, U⟩ v0) ⟨N, 1, U⟩ v1) ⟨N, 2, U⟩ v2) ⟨N, 3, U⟩ v3) ⟨N, 4, U⟩ v4) ⟨N, 5, U⟩ v5) :=
 ⟨(((((hb.set 0 v0).set 1 v1).set 2 v2).set 3 v3).set 4 v4).set 5 v5, zf.setCells (R := fun b => b = N) rfl [v0, v1, v2, v3, v4, v5] 0 w (zf.refl _ _)⟩
def zap : Nat → List Int → Nat → List Nat → List Int × List Nat × Int
  | 0, ns, _, l => (ns, l, 0)
  | f + 1, ns, want, l =>
    if ns.length < want then
      (if (zt l).2.2 = 0 then
        (if ns.length = 2 then (if (zt l).1 < 0 ∨ 4 < (zt l).1 then (ns, l, 5) else zap f (ns ++ [(zt l).1]) (3 + 2 * (zt l).1.toNat) (l.drop (zt l).2.1))
         else zap f (ns ++ [(zt l).1]) want (l.drop (zt l).2.1))
       else (ns, l, (zt l).2.2))
    else (ns, l, 0)
def zbr (h : Int) : List Int → List P3
 | k :: n :: t => (h, k, n) :: zbr h t
 | _ => []
def zct (b : List Nat) : M4 × Int :=
  if b.length < 3 then (m0, 8)
  else if zch (b.take (b.length - 2)) = endB b then
    (let jj := zap 12 [] 3 ((b.take (b.length - 2)).drop 1)
     if jj.2.2 = 0 then (if 0 < jj.2.1.length then (m0, 2) else
       (let m : M4 := ((((b.take (b.length - 2)).getD 0 0 : Nat) : Int), jj.1.getD 0 0, jj.1.getD 1 0, zbr (jj.1.getD 1 0) (jj.1.drop 3))
        if zdn m = 0 then (m, 0) else (m0, zdn m))) else (m0, jj.2.2))
  else (m0, 7)
theorem zgz (l : List Nat) : zcy (l, 0) = ((zt l).1, l.drop (zt l).2.1, (zt l).2.2) := by simp [zcy]
theorem zis {l : List Nat} {e : Int} (h : e ≠ 0) : zcy (l, e) = (0, l, e) := by simp [zcy, h]
theorem zgj (h : Int) : ∀ (m : Nat) {l : List Nat} {e : Int}, e ≠ 0 → zb5 h m (l, e) = ([], l, e)
 | 0, _, _, _ => rfl
 | m + 1, _, _, he => by simp [zb5, he]
theorem zku (h : Int) : ∀ (m f : Nat) (ns : List Int) (l : List Nat), 3 ≤ ns.length → 2 * m + 1 ≤ f →
  (zap f ns (ns.length + 2 * m) l).2.2 = (zb5 h m (l, 0)).2.2 ∧ ((zb5 h m (l, 0)).2.2 = 0 → zap f ns (ns.length + 2 * m) l = (ns ++ (zb5 h m (l, 0)).1.flatMap (fun p => [p.2.1, p.2.2]), (zb5 h m (l, 0)).2.1, 0) ∧ ∀ p ∈ (zb5 h m (l, 0)).1, p.1 = h)
 | 0, f, ns, l, _, hf => by
  obtain ⟨f, rfl⟩ : ∃ g, f = g + 1 := ⟨f - 1, by omega⟩;simp [zap, zb5]
 | m + 1, f, ns, l, h3, hf => by
  obtain ⟨f, rfl⟩ : ∃ g, f = g + 1 + 1 := ⟨f - 2, by omega⟩
  have e1 : zap (f + 1 + 1) ns (ns.length + 2 * (m + 1)) l = if (zt l).2.2 = 0 then zap (f + 1) (ns ++ [(zt l).1]) (ns.length + 2 * (m + 1)) (l.drop (zt l).2.1) else (ns, l, (zt l).2.2) := by
   conv => lhs; unfold zap
   rw [if_pos (by omega), if_neg (show ¬ ns.length = 2 by omega)]
  by_cases g1 : (zt l).2.2 = 0
  ·rw [e1, if_pos g1]
   generalize hl1 : l.drop (zt l).2.1 = l1
   have e2 : zap (f + 1) (ns ++ [(zt l).1]) (ns.length + 2 * (m + 1)) l1 = if (zt l1).2.2 = 0 then zap f (ns ++ [(zt l).1] ++ [(zt l1).1]) (ns.length + 2 * (m + 1)) (l1.drop (zt l1).2.1) else (ns ++ [(zt l).1], l1, (zt l1).2.2) := by
    conv => lhs; unfold zap
    rw [if_pos (by simp; omega), if_neg (show ¬ (ns ++ [(zt l).1]).length = 2 by simp; omega)]
   have e3 : zb5 h (m + 1) (l, 0) = ((h, (zt l).1, (zcy (l1, 0)).1) :: (zb5 h m (zcy (l1, 0)).2).1, (zb5 h m (zcy (l1, 0)).2).2) := by
    simp only [zb5, zgz, g1, hl1, if_true]
   rw [e3, e2, zgz];by_cases g2 : (zt l1).2.2 = 0
   ·rw [if_pos g2, g2]
    generalize l1.drop (zt l1).2.1 = l2;obtain ⟨i1, i2⟩ := zku h m f (ns ++ [(zt l).1] ++ [(zt l1).1]) l2 (by simp; omega) (by omega);have el : (ns ++ [(zt l).1] ++ [(zt l1).1]).length + 2 * m = ns.length + 2 * (m + 1) := by simp; omega
    rw [el] at i1 i2;refine ⟨i1, fun h0 => ?_⟩;obtain ⟨j1, j2⟩ := i2 h0;refine ⟨?_, fun p hp => ?_⟩
    ·rw [j1]; simp
    ·rcases List.mem_cons.1 hp with rfl | hp
     ·rfl
     ·exact j2 p hp
   ·rw [if_neg g2, zgj h m g2]
    exact ⟨rfl, fun h0 => absurd h0 g2⟩
  ·rw [e1, if_neg g1]
   have e3 : (zb5 h (m + 1) (l, 0)).2.2 = (zt l).2.2 := by
    simp only [zb5, zgz, if_true]
    rw [zis g1, zgj h m g1]
   rw [e3];exact ⟨rfl, fun h0 => absurd h0 g1⟩
theorem zmu (h : Int) : ∀ (ps : List P3), (∀ p ∈ ps, p.1 = h) → zbr h (ps.flatMap fun p => [p.2.1, p.2.2]) = ps
 | [], _ => rfl
 | p :: t, hp => by
  have e : (p :: t).flatMap (fun p : P3 => [p.2.1, p.2.2]) = p.2.1 :: p.2.2 :: t.flatMap (fun p : P3 => [p.2.1, p.2.2]) := by simp
  rw [e];show (h, p.2.1, p.2.2) :: zbr h _ = _
  rw [zmu h t (fun q hq => hp q (List.mem_cons_of_mem _ hq)), ← hp p (List.mem_cons_self ..)]
theorem zpt (b : List Nat) : (zfu b).2 = (if (zap 12 [] 3 (b.drop 1)).2.2 = 0 then (if 0 < (zap 12 [] 3 (b.drop 1)).2.1.length then 2 else 0) else (zap 12 [] 3 (b.drop 1)).2.2) ∧
  ((zfu b).2 = 0 → (zfu b).1 = (((b.getD 0 0 : Nat) : Int), (zap 12 [] 3 (b.drop 1)).1.getD 0 0, (zap 12 [] 3 (b.drop 1)).1.getD 1 0, zbr ((zap 12 [] 3 (b.drop 1)).1.getD 1 0) ((zap 12 [] 3 (b.drop 1)).1.drop 3))) := by
 generalize hl : b.drop 1 = l
 have e1 : zap 12 [] 3 l = if (zt l).2.2 = 0 then zap 11 [(zt l).1] 3 (l.drop (zt l).2.1) else ([], l, (zt l).2.2) := by
  conv => lhs; unfold zap
  rw [if_pos (by decide), if_neg (show ¬ ([] : List Int).length = 2 by decide)];rfl
 unfold zfu
 simp only [hl, zgz]
 by_cases g1 : (zt l).2.2 = 0
 ·rw [e1, if_pos g1, g1]
  generalize l.drop (zt l).2.1 = l1;generalize (zt l).1 = x0
  have e2 : zap 11 [x0] 3 l1 = if (zt l1).2.2 = 0 then zap 10 [x0, (zt l1).1] 3 (l1.drop (zt l1).2.1) else ([x0], l1, (zt l1).2.2) := by
   conv => lhs; unfold zap
   rw [if_pos (by simp), if_neg (show ¬ [x0].length = 2 by simp)];rfl
  rw [e2, zgz];by_cases g2 : (zt l1).2.2 = 0
  ·rw [if_pos g2, g2]
   generalize l1.drop (zt l1).2.1 = l2;generalize (zt l1).1 = x1
   have e3 : zap 10 [x0, x1] 3 l2 = if (zt l2).2.2 = 0 then (if (zt l2).1 < 0 ∨ 4 < (zt l2).1 then ([x0, x1], l2, 5) else zap 9 [x0, x1, (zt l2).1] (3 + 2 * (zt l2).1.toNat) (l2.drop (zt l2).2.1)) else ([x0, x1], l2, (zt l2).2.2) := by
    conv => lhs; unfold zap
    rw [if_pos (by simp), if_pos (show [x0, x1].length = 2 by rfl)];rfl
   rw [e3, zgz];by_cases g3 : (zt l2).2.2 = 0
   ·rw [if_pos g3]
    by_cases g4 : (zt l2).1 < 0 ∨ 4 < (zt l2).1
    ·rw [if_pos g4]
     have e5 : zel ((zt l2).1, l2.drop (zt l2).2.1, (zt l2).2.2) = 5 := by unfold zel; rw [if_pos ⟨g3, g4⟩]
     rw [e5, zgj _ _ (show (5 : Int) ≠ 0 by decide)];simp [zfj]
    ·rw [if_neg g4]
     have e5 : zel ((zt l2).1, l2.drop (zt l2).2.1, (zt l2).2.2) = 0 := by unfold zel; rw [if_neg (fun h => g4 h.2)]; exact g3
     rw [e5];generalize l2.drop (zt l2).2.1 = l3;generalize (zt l2).1 = x2 at *;obtain ⟨i1, i2⟩ := zku x1 x2.toNat 9 [x0, x1, x2] l3 (by simp) (by omega);have el : [x0, x1, x2].length + 2 * x2.toNat = 3 + 2 * x2.toNat := rfl;rw [el] at i1 i2;rw [i1];by_cases g5 : (zb5 x1 x2.toNat (l3, 0)).2.2 = 0
     ·obtain ⟨j1, j2⟩ := i2 g5
      rw [j1, if_pos g5];refine ⟨by simp only [zfj]; rw [g5]; simp, fun _ => ?_⟩;have : ([x0, x1, x2] ++ (zb5 x1 x2.toNat (l3, 0)).1.flatMap fun p => [p.2.1, p.2.2]).drop 3 = (zb5 x1 x2.toNat (l3, 0)).1.flatMap fun p => [p.2.1, p.2.2] := rfl
      rw [this];have h0 : ([x0, x1, x2] ++ (zb5 x1 x2.toNat (l3, 0)).1.flatMap fun p => [p.2.1, p.2.2]).getD 0 0 = x0 := rfl;have h1 : ([x0, x1, x2] ++ (zb5 x1 x2.toNat (l3, 0)).1.flatMap fun p => [p.2.1, p.2.2]).getD 1 0 = x1 := rfl;rw [h0, h1, zmu x1 _ j2]
     ·rw [if_neg g5]
      have : zfj (zb5 x1 x2.toNat (l3, 0)).2 = (zb5 x1 x2.toNat (l3, 0)).2.2 := by unfold zfj; rw [if_neg (fun h => g5 h.1)]
      rw [this];exact ⟨rfl, fun h => absurd h g5⟩
   ·rw [if_neg g3]
    have e5 : zel ((zt l2).1, l2.drop (zt l2).2.1, (zt l2).2.2) = (zt l2).2.2 := by unfold zel; rw [if_neg (fun h => g3 h.1)]
    rw [e5, zgj _ _ g3];simp [zfj, g3]
  ·rw [if_neg g2, zis g2]
   have e5 : zel (0, l1.drop (zt l1).2.1, (zt l1).2.2) = (zt l1).2.2 := by unfold zel; rw [if_neg (fun h => g2 h.1)]
   rw [e5, zgj _ _ g2];simp [zfj, g2]
 ·rw [e1, if_neg g1, zis g1, zis g1]
  have e5 : zel (0, l.drop (zt l).2.1, (zt l).2.2) = (zt l).2.2 := by unfold zel; rw [if_neg (fun h => g1 h.1)]
  rw [e5, zgj _ _ g1];simp [zfj, g1]
theorem zqx (b : List Nat) : zct b = zei b := by
 unfold zct zei
 split
 ·rfl
 ·split
  ·obtain ⟨h1, h2⟩ := zpt (b.take (b.length - 2))
   generalize zap 12 [] 3 ((b.take (b.length - 2)).drop 1) = jj at *;generalize zfu (b.take (b.length - 2)) = q at *;obtain ⟨m, e⟩ := q;simp only at h1 h2 ⊢
   by_cases c : jj.2.2 = 0
   ·rw [if_pos c] at h1 ⊢
    by_cases c2 : 0 < jj.2.1.length
    ·rw [if_pos c2] at h1 ⊢
     rw [h1];rfl
    ·rw [if_neg c2] at h1 ⊢
     rw [if_pos h1, h2 h1]
   ·rw [if_neg c] at h1 ⊢
    rw [h1, if_neg c, if_neg c]
  ·rfl
theorem far_take {l : List P3} {k : Nat} (h : k < l.length) (hs : Int) : ((l.take (k + 1)).any fun p => !decide (p.1 = hs)) = (((l.take k).any fun p => !decide (p.1 = hs)) || !decide (l[k].1 = hs)) := by rw [zav h, List.any_append, List.any_cons, List.any_nil, Bool.or_false]
theorem zjy (k d hs : Int) (a : Option Addr) (l : List P3) (cap n : Nat) (w : World) (hn : n = l.length) (hl : l.length ≤ 9223372036854775807) (hp : zae w a l) :
  Calls Tryz.prog 23 #[.agg #[E J k, E J d, E J hs, G a n cap]] w fun e w' => e = .returned (E J (za9 k d hs l)) ∧ Z w.heap.size w w' := by
 have hbX := zh w (T #[E J k, E J d, E J hs, G a n cap] 25);have hm0 : Blk (w.alloc (T #[E J k, E J d, E J hs, G a n cap] 25)) w.heap.size #[E J k, E J d, E J hs, G a n cap] 25 := Blk.new _ _ _;have HN := zC hn hp hl;have hnl : n ≤ 9223372036854775807 := by omega
 clear hn hp hl;by_cases h1 : k < 1 ∨ 7 < k
 ·have HF : Q (za9 k d hs l = 1) := by show _ = _; unfold za9; rw [if_pos h1]
  go_enter Tryz.func23, Tryz.ntmps23
  by_cases h1a : k < 1
  ·clear h1
   go_wp2;go_ret;exact ⟨zca HF.out.symm, hbX⟩
  ·have h1b : 7 < k := by omega
   clear h1;go_wp2;go_ret;exact ⟨zca HF.out.symm, hbX⟩
 have h1a : ¬ k < 1 := by omega
 have h1b : ¬ 7 < k := by omega
 by_cases h2 : d < 0 ∨ 1343 < d ∨ hs < 0 ∨ 2 < hs
 ·have HF : Q (za9 k d hs l = 3) := by show _ = _; unfold za9; rw [if_neg h1, if_pos h2]
  clear h1;go_enter Tryz.func23, Tryz.ntmps23
  by_cases c1 : d < 0
  ·clear h2
   go_wp2;go_ret;exact ⟨zca HF.out.symm, hbX⟩
  ·by_cases c2 : 1343 < d
   ·clear h2
    go_wp2;go_ret;exact ⟨zca HF.out.symm, hbX⟩
   ·by_cases c3 : hs < 0
    ·clear h2
     go_wp2;go_ret;exact ⟨zca HF.out.symm, hbX⟩
    ·have c4 : 2 < hs := by omega
     clear h2;go_wp2;go_ret;exact ⟨zca HF.out.symm, hbX⟩
 have c1 : ¬ d < 0 := by omega
 have c2 : ¬ 1343 < d := by omega
 have c3 : ¬ hs < 0 := by omega
 have c4 : ¬ 2 < hs := by omega
 by_cases h3 : 1 < k
 ·by_cases h4 : n = 0
  ·have HF : Q (za9 k d hs l = 0) := by show _ = _; unfold za9; rw [if_neg h1, if_neg h2, if_pos h3, if_pos (by have := HN.out.1; omega)]
   subst h4;clear h1 h2;go_enter Tryz.func23, Tryz.ntmps23
   go_wp2;go_ret;exact ⟨zca HF.out.symm, hbX⟩
  ·have HF : Q (za9 k d hs l = 5) := by show _ = _; unfold za9; rw [if_neg h1, if_neg h2, if_pos h3, if_neg (by have := HN.out.1; omega)]
   have h4' : ((n : Int) != 0) = true := by simpa using h4
   clear h1 h2 h4;go_enter Tryz.func23, Tryz.ntmps23
   go_wp2;go_ret;exact ⟨zca HF.out.symm, hbX⟩
 have HE : Q (za9 k d hs l = if zax l 3 = 0 then (if (l.any fun p => !decide (p.1 = hs)) = true then 3 else 0) else zax l 3) := by show _ = _; unfold za9; rw [if_neg h1, if_neg h2, if_neg h3]
 clear h1 h2;go_enter Tryz.func23, Tryz.ntmps23
 go_wp2_with fail
 generalize w.alloc (T #[E J k, E J d, E J hs, G a n cap] 25) = W at *;refine (zi6 a l cap n 3 W HN.out.1 HN.out.2.2 (HN.out.2.1.below hbX) (by decide)).mono ?_;rintro e w1 ⟨rfl, hb1⟩;have hB1 := hbX.trans (hb1.mono hbX.size);have hm1 := hm0.below hb1 hm0.lt;clear hb1 hbX hm0;generalize hwr : zax l 3 = x at *;by_cases hx : x = 0
 ·subst hx
  have q2 := hm1.cell 2;have q3 := hm1.cell 3;have hql := hm1.lt;simp at q2 q3
  clear hwr;go_wp2;clear q2 q3;go_loopw [48] (fun i w' => ∃ k : Nat, k ≤ n ∧ i = E J k ∧ Q (((l.take k).any fun p => !decide (p.1 = hs)) = false) ∧ Z w1.heap.size w1 w') (fun i _ => n - (intOf i).toNat)
  case atStart => exact ⟨0, Nat.zero_le _, rfl, rfl, Below.refl _ _⟩
  case round =>
   obtain ⟨j, hj, rfl, hno, hbw⟩ := hrel;have hBr := hB1.trans (hbw.mono hB1.size);have hmr := hm1.below hbw hm1.lt;have q2 := hmr.cell 2;have hqr := hmr.lt;simp at q2
   by_cases hlt : j < n
   ·have hjl : j < l.length := by have := HN.out.1; omega
    rcases HN.out.2.1.below hBr with h0 | ⟨g, o, rfl, hg, hc⟩
    ·rw [h0] at hjl; simp at hjl
    obtain ⟨e0, e1, e2⟩ := hc j hjl;have HS : Q (((l.take (j + 1)).any fun p => !decide (p.1 = hs)) = !decide (l[j].1 = hs)) := by show _ = _; rw [far_take hjl, hno.out]; rfl
    have HA : Q (¬ l[j].1 = hs → (l.any fun p => !decide (p.1 = hs)) = true) := fun h => by
     rw [List.any_eq_true];exact ⟨_, List.getElem_mem hjl, by simpa using h⟩
    clear hc hno;generalize l[j] = p at *;obtain ⟨p0, p1, p2⟩ := p;simp only at e0 e1 e2 HS HA
    have hbA := zh wr (T #[E J p0, E J p1, E J p2] 90);have hBA := hBr.trans (hbA.mono hBr.size);have hBm := hbw.trans (hbA.mono hbw.size);clear hmr hbw;by_cases hp : p0 = hs
    ·subst hp
     have HF : Q (((l.take (j + 1)).any fun p => !decide (p.1 = p0)) = false) := by show _ = _; rw [HS.out]; simp
     clear HS HA;go_wp2;go_roundw
     case rel => exact ⟨j + 1, by omega, by go_num, HF, hBm⟩
     case measure => simp [intOf]; omega
    ·have HF : Q (za9 k d hs l = 3) := by show _ = _; rw [HE.out, if_pos trivial, if_pos (HA.out hp)]
     have hp' : (p0 != hs) = true := by simpa using hp
     clear HS HA hp;go_wp2;go_ret;exact ⟨zca HF.out.symm, hBA⟩
   ·have HF : Q (za9 k d hs l = 0) := by
     have h := hno.out;rw [List.take_of_length_le (by have := HN.out.1; omega)] at h;show _ = _
     rw [HE.out, if_pos trivial, h];rfl
    clear hno;go_wp2;go_ret;exact ⟨zca HF.out.symm, hBr⟩
 ·have HF : Q (za9 k d hs l = x) := by show _ = _; rw [HE.out, if_neg hx]
  have hx' : (x != 0) = true := by simpa using hx
  clear hx hwr HE;go_wp2;go_ret;exact ⟨zca HF.out.symm, hB1⟩
end Go.Proofs.YtpcnlifmkhagkaaGreat
