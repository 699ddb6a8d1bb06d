import Derived.Test.YtpcnlifmkhagkaaGreatKTJ21
set_option maxRecDepth 20000
set_option maxHeartbeats 20000000
namespace Go.Proofs.YtpcnlifmkhagkaaGreat
open Go.RowKit
open Go.Value renaming slice → G, int → E
open Go.IntKind renaming i64 → J
open _root_.Option renaming none → U
open Go.Obj renaming cells → T
open Go.RowKit renaming Hid → Q, Below → Z
open Go.World renaming setCell → r
attribute [local go_sem ↓] Go.wp_at_zero Go.wp_at_succ
theorem za.firstW {α : Type} {e : TypeId} {size : Nat} {enc : α → List Value} {w : World} {base : Nat} {a : Option Addr} {n c : Nat} {xs : List α} (h : za e size enc w base (G a n c) xs) (hx : 0 < xs.length) : ∃ g cs, a = some ⟨g, 0, U⟩ ∧ Blk w g cs e ∧ base ≤ g := by
 rcases h.2 with ⟨hv, h0⟩ | ⟨g', cap', cur, hv, hg, hh, _⟩
 ·omega
 ·injection hv with h1 h2 h3
  exact ⟨g', cur, h1, hh, hg⟩
theorem zob (R : Nat → Prop) (v : Value) (W : WW) (k : Nat) (x : XH) (L : List R3) (w : World) (hR : ∀ b, R b → b < w.heap.size) (hv : zac R w v W) (hx : zba R w (zek x) L (zd L)) (hk : k < W.hs.length) (hm : W.hs.length ≤ 1000) :
  Calls Tryz.prog 71 #[v, E J (k : Nat), zek x] w fun e w' => ∃ v', e = .returned v' ∧ zac R w' v' { W with hs := W.hs.set k L } ∧ Z w.heap.size w w' := by
 obtain ⟨la, nl, lc, Y, oa, no, oc, X, ha, nh, hc, XHs, na, nn, nc, XNs, rfl, hnc, hF⟩ := hv;have HNC := zA hnc;clear hnc;obtain ⟨R', r1, r2, r3, r4⟩ := zhy R w 3;obtain ⟨⟨a0, b0, c0⟩, ⟨s0, s1, s2, s3⟩, ⟨a1, b1, c1⟩, ⟨a2, b2, c2⟩⟩ := x;have HX := zA hx;have HL := zC hF.hs.len hF.hs.n hk;have hl3 : XHs.length ≤ 1000 := by have := hF.hs.len; omega
 have hkX : k < XHs.length := by have := hF.hs.len; omega
 clear hx hk hm;simp only [zek]
 have hbX := (zaw w (T #[G la nl lc, E J W.hd.boot, E J W.hd.next, G oa no oc, G ha nh hc, G na nn nc] 65) (T #[G a0 b0 c0, E J s0, E J s1, E J s2, E J s3, G a1 b1 c1, G a2 b2 c2] 77)).alloc (by simp; omega) (T #[G U 0 0, E J 0, E J 0, G U 0 0, G U 0 0, G U 0 0] 65);go_enter Tryz.func71, Tryz.ntmps71
 go_upto_region 1 with fail
 generalize hVV : (((w.alloc (T #[G la nl lc, E J W.hd.boot, E J W.hd.next, G oa no oc, G ha nh hc, G na nn nc] 65)).alloc (T #[G a0 b0 c0, E J s0, E J s1, E J s2, E J s3, G a1 b1 c1, G a2 b2 c2] 77)).alloc (T #[G U 0 0, E J 0, E J 0, G U 0 0, G U 0 0, G U 0 0] 65)) = V at *;have hN0 : Blk V w.heap.size #[G la nl lc, E J W.hd.boot, E J W.hd.next, G oa no oc, G ha nh hc, G na nn nc] 65 := by rw [← hVV]; exact ((Blk.new _ _ _).alloc _).alloc _
 have hN1 : Blk V (w.heap.size + 1) #[G a0 b0 c0, E J s0, E J s1, E J s2, E J s3, G a1 b1 c1, G a2 b2 c2] 77 := by rw [← hVV]; exact Blk.alloc (zao _ _ _) _
 have hsX : V.heap.size = w.heap.size + 3 := by rw [← hVV]; simp
 have hN2 : Blk V (w.heap.size + 2) #[G U 0 0, E J 0, E J 0, G U 0 0, G U 0 0, G U 0 0] 65 := by rw [← hVV]; rw [show w.heap.size + 2 = ((w.alloc (T #[G la nl lc, E J W.hd.boot, E J W.hd.next, G oa no oc, G ha nh hc, G na nn nc] 65)).alloc (T #[G a0 b0 c0, E J s0, E J s1, E J s2, E J s3, G a1 b1 c1, G a2 b2 c2] 77)).heap.size by simp]; exact Blk.new _ _ _
 clear hVV;have HV := zC hbX hN0 hsX;have n4 := hN0.cell 4;have k4 := hN0.free 4;simp only [List.getElem?_toArray, List.getElem?_cons_zero, List.getElem?_cons_succ] at n4
 have nl0 := hN0.lt;have HF := zA hF;have HV2 := zB hN1 hN2;clear hbX hN0 hN1 hN2 hsX hF;have HB1 : Q (Z V.heap.size V (V.alloc (T #[] 77))) := zh _ _;go_upto_region 2 with (at_builtin; refine zhe lenH oneH Tryz.underlying62 infoHouse rfl (by decide) _ rfl _ _ rfl V.heap.size _ [] rfl (zag.made (Blk.new V _ _) _) ha nh hc XHs rfl HL.out.2.1 (((HF.out.hs.below HV.out.1).below HB1.out).row) (by unfold maxLen; simp; omega) (by simp; omega) (by simp) ?_; intro a3 n3 c3 w3 hfr3 hn3 hb3; obtain ⟨g3, cs3, rfl, hg3, hge⟩ := za.firstW (hfr3.resolve_right (fun h => by have h1 := h.1; simp at h1; rw [h1] at hkX; simp at hkX)) (by simp; omega); have hO3 : za 77 7 zec w3 V.heap.size (G (some ⟨g3, 0, U⟩) n3 c3) XHs := (by have h := hfr3.resolve_right (fun h => by have h1 := h.1; simp at h1; rw [h1] at hkX; simp at hkX); rw [List.nil_append] at h; exact h); have hb3' := HB1.out.trans (hb3.mono (by have := HB1.out.size; omega)); have hN3 := HV.out.2.1.below hb3' HV.out.2.1.lt; have hM3 := HV2.out.1.below hb3' HV2.out.1.lt; have hZ3 := HV2.out.2.below hb3' HV2.out.2.lt; have n43 := hN3.cell 4; have k43 := hN3.free 4; have l43 := hN3.lt; simp only [List.getElem?_toArray, List.getElem?_cons_zero, List.getElem?_cons_succ] at n43; have hn3' : Q (n3 = XHs.length) := (by show _ = _; rw [hn3]; simp); clear hn3 hfr3)
 have HP : Q (za 77 7 zec (r w3 ⟨w.heap.size, 4, U⟩ (G (some ⟨g3, 0, U⟩) n3 c3)) V.heap.size (G (some ⟨g3, 0, U⟩) n3 c3) XHs ∧ Z w.heap.size w (r w3 ⟨w.heap.size, 4, U⟩ (G (some ⟨g3, 0, U⟩) n3 c3))) := ⟨hO3.setOther (a := ⟨w.heap.size, 4, U⟩) hN3 (by decide) _, (HV.out.1.trans (hb3'.mono HV.out.1.size)).setCell (Nat.le_refl _) _⟩;have hN4 : Blk (r w3 ⟨w.heap.size, 4, U⟩ (G (some ⟨g3, 0, U⟩) n3 c3)) w.heap.size #[G la nl lc, E J W.hd.boot, E J W.hd.next, G oa no oc, G (some ⟨g3, 0, U⟩) n3 c3, G na nn nc] 65 := hN3.set 4 (G (some ⟨g3, 0, U⟩) n3 c3);have hM4 := hM3.setOther (a := ⟨w.heap.size, 4, U⟩) (by simp) (G (some ⟨g3, 0, U⟩) n3 c3);have hZ4 := hZ3.setOther (a := ⟨w.heap.size, 4, U⟩) (by simp) (G (some ⟨g3, 0, U⟩) n3 c3);have hG4 := hg3.setOther (a := ⟨w.heap.size, 4, U⟩) (by have := HV.out.2.2; simp; omega) (G (some ⟨g3, 0, U⟩) n3 c3);clear hN3 hM3 hZ3 hg3 hO3 hb3' n43 k43 l43 hb3;generalize r w3 ⟨w.heap.size, 4, U⟩ (G (some ⟨g3, 0, U⟩) n3 c3) = jz at *;have hrow := (HP.out.1.at lenH).1;rcases hrow with h0 | ⟨b', o', he', hlt', hc'⟩
 ·rw [h0] at hkX; simp at hkX
 cases he';have d0 := hc' k hkX 0 _ rfl;have d1 := hc' k hkX 1 _ rfl;have d2 := hc' k hkX 2 _ rfl;have d3 := hc' k hkX 3 _ rfl;have d4 := hc' k hkX 4 _ rfl;have d5 := hc' k hkX 5 _ rfl;have d6 := hc' k hkX 6 _ rfl;simp only [Nat.zero_add, Nat.add_zero] at d0 d1 d2 d3 d4 d5 d6
 have hput : za 77 7 zec (((((((jz.setCell ⟨g3, k * 7, U⟩ (G a0 b0 c0)).setCell ⟨g3, k * 7 + 1, U⟩ (E J s0)).setCell ⟨g3, k * 7 + 2, U⟩ (E J s1)).setCell ⟨g3, k * 7 + 3, U⟩ (E J s2)).setCell ⟨g3, k * 7 + 4, U⟩ (E J s3)).setCell ⟨g3, k * 7 + 5, U⟩ (G a1 b1 c1)).setCell ⟨g3, k * 7 + 6, U⟩ (G a2 b2 c2)) V.heap.size (G (some ⟨g3, 0, U⟩) n3 c3) (XHs.set k ((a0, b0, c0), (s0, s1, s2, s3), (a1, b1, c1), (a2, b2, c2))) := HP.out.1.putN lenH hkX ((a0, b0, c0), (s0, s1, s2, s3), (a1, b1, c1), (a2, b2, c2));have hKU : zf (fun b => b = g3) jz (((((((jz.setCell ⟨g3, k * 7, U⟩ (G a0 b0 c0)).setCell ⟨g3, k * 7 + 1, U⟩ (E J s0)).setCell ⟨g3, k * 7 + 2, U⟩ (E J s1)).setCell ⟨g3, k * 7 + 3, U⟩ (E J s2)).setCell ⟨g3, k * 7 + 4, U⟩ (E J s3)).setCell ⟨g3, k * 7 + 5, U⟩ (G a1 b1 c1)).setCell ⟨g3, k * 7 + 6, U⟩ (G a2 b2 c2)) := zf.setCells (R := fun b => b = g3) rfl [(G a0 b0 c0), (E J s0), (E J s1), (E J s2), (E J s3), (G a1 b1 c1), (G a2 b2 c2)] (k * 7) jz (zf.refl _ _);have hN5 := hN4.keep hKU (by have := HV.out.2.2; omega);have hZ5 := hZ4.keep hKU (by have := HV.out.2.2; omega);have f0 := hG4.free (k * 7);have f1 := hG4.free (k * 7 + 1);have f2 := hG4.free (k * 7 + 2);have f3 := hG4.free (k * 7 + 3);have f4 := hG4.free (k * 7 + 4);have f5 := hG4.free (k * 7 + 5);have f6 := hG4.free (k * 7 + 6);have x4 := hN4.cell 4;simp only [List.getElem?_toArray, List.getElem?_cons_zero, List.getElem?_cons_succ] at x4
 obtain ⟨⟨y0, y1, y2, y3, y4, y5, y6⟩, -⟩ := zdb hM4;have HQ := zD hput hN5 hZ5 (HP.out.2.trans (hKU.below HP.out.2.size (fun b hb => by have := HV.out.2.2; omega)));have hkn : k < n3 := by rw [hn3'.out]; exact hkX
 have hg3l := hG4.lt;clear hput hKU hN5 hZ5 hN4 hM4 hZ4 hc' n4 k4 nl0 HP hG4;generalize XHs[k] = xo at *;obtain ⟨⟨z0, z1, z2⟩, ⟨z3, z4, z5, z6⟩, ⟨z7, z8, z9⟩, ⟨zA, zB, zC⟩⟩ := xo;simp only at d0 d1 d2 d3 d4 d5 d6
 go_upto_region 3 with fail
 clear d0 d1 d2 d3 d4 d5 d6 f0 f1 f2 f3 f4 f5 f6 x4 y0 y1 y2 y3 y4 y5 y6;generalize (((((((jz.setCell ⟨g3, k * 7, U⟩ (G a0 b0 c0)).setCell ⟨g3, k * 7 + 1, U⟩ (E J s0)).setCell ⟨g3, k * 7 + 2, U⟩ (E J s1)).setCell ⟨g3, k * 7 + 3, U⟩ (E J s2)).setCell ⟨g3, k * 7 + 4, U⟩ (E J s3)).setCell ⟨g3, k * 7 + 5, U⟩ (G a1 b1 c1)).setCell ⟨g3, k * 7 + 6, U⟩ (G a2 b2 c2)) = zX at *;obtain ⟨hQ, hK6⟩ := zhd HQ.out.2.2.1 (G la nl lc) (E J W.hd.boot) (E J W.hd.next) (G oa no oc) (G (some ⟨g3, 0, U⟩) n3 c3) (G na nn nc);obtain ⟨t0, t1, t2, t3, t4, t5⟩ := HQ.out.2.2.1.cells6;obtain ⟨q0, q1, q2, q3, q4, q5⟩ := HQ.out.2.2.1.free6;obtain ⟨u0, u1, u2, u3, u4, u5⟩ := HQ.out.2.1.cells6;obtain ⟨e0, e1, e2, e3, e4, e5⟩ := hQ.cells6;have hl2 := HQ.out.2.2.1.lt;have hbF := HQ.out.2.2.2.trans (hK6.below HQ.out.2.2.2.size (fun b hb => by omega))
 have hOF : za 77 7 zec ((((((zX.setCell ⟨w.heap.size + 2, 0, U⟩ (G la nl lc)).setCell ⟨w.heap.size + 2, 1, U⟩ (E J W.hd.boot)).setCell ⟨w.heap.size + 2, 2, U⟩ (E J W.hd.next)).setCell ⟨w.heap.size + 2, 3, U⟩ (G oa no oc)).setCell ⟨w.heap.size + 2, 4, U⟩ (G (some ⟨g3, 0, U⟩) n3 c3)).setCell ⟨w.heap.size + 2, 5, U⟩ (G na nn nc)) V.heap.size (G (some ⟨g3, 0, U⟩) n3 c3) (XHs.set k ((a0, b0, c0), (s0, s1, s2, s3), (a1, b1, c1), (a2, b2, c2))) := by
  have z := HQ.out.2.2.1;exact (((((HQ.out.1.setOther (a := ⟨w.heap.size + 2, 0, U⟩) z (by decide) _).setOther (a := ⟨w.heap.size + 2, 1, U⟩) (z.set 0 _) (by decide) _).setOther (a := ⟨w.heap.size + 2, 2, U⟩) ((z.set 0 _).set 1 _) (by decide) _).setOther (a := ⟨w.heap.size + 2, 3, U⟩) (((z.set 0 _).set 1 _).set 2 _) (by decide) _).setOther (a := ⟨w.heap.size + 2, 4, U⟩) ((((z.set 0 _).set 1 _).set 2 _).set 3 _) (by decide) _).setOther (a := ⟨w.heap.size + 2, 5, U⟩) (((((z.set 0 _).set 1 _).set 2 _).set 3 _).set 4 _) (by decide) _
 have HFF : Q (zac R ((((((zX.setCell ⟨w.heap.size + 2, 0, U⟩ (G la nl lc)).setCell ⟨w.heap.size + 2, 1, U⟩ (E J W.hd.boot)).setCell ⟨w.heap.size + 2, 2, U⟩ (E J W.hd.next)).setCell ⟨w.heap.size + 2, 3, U⟩ (G oa no oc)).setCell ⟨w.heap.size + 2, 4, U⟩ (G (some ⟨g3, 0, U⟩) n3 c3)).setCell ⟨w.heap.size + 2, 5, U⟩ (G na nn nc)) (.agg #[G la nl lc, E J W.hd.boot, E J W.hd.next, G oa no oc, G (some ⟨g3, 0, U⟩) n3 c3, G na nn nc]) { W with hs := W.hs.set k L } ∧ Z w.heap.size w ((((((zX.setCell ⟨w.heap.size + 2, 0, U⟩ (G la nl lc)).setCell ⟨w.heap.size + 2, 1, U⟩ (E J W.hd.boot)).setCell ⟨w.heap.size + 2, 2, U⟩ (E J W.hd.next)).setCell ⟨w.heap.size + 2, 3, U⟩ (G oa no oc)).setCell ⟨w.heap.size + 2, 4, U⟩ (G (some ⟨g3, 0, U⟩) n3 c3)).setCell ⟨w.heap.size + 2, 5, U⟩ (G na nn nc))) := by
  refine ⟨⟨la, nl, lc, Y, oa, no, oc, X, some ⟨g3, 0, U⟩, n3, c3, XHs.set k ((a0, b0, c0), (s0, s1, s2, s3), (a1, b1, c1), (a2, b2, c2)), na, nn, nc, XNs, rfl, HNC.out, ⟨HF.out.hd.below hbF, ?_, HF.out.net.below hbF⟩⟩, hbF⟩;have hat := hOF.at lenH;refine ⟨hat.2.1, hat.1, hOF.outR (fun b hb => by have := hR b hb; have := HV.out.2.2; omega) _, by simp only [List.length_set]; exact HL.out.1, fun i h1 h2 => ?_⟩;by_cases hik : i = k
  ·subst hik
   simp only [List.getElem_set_self]
   exact HX.out.below hbF
  ·simp only [List.getElem_set_ne (Ne.symm hik)]
   rw [List.length_set] at h1 h2;exact (HF.out.hs.each i h1 h2).below hbF
 clear hQ hK6 hbF hOF HQ;go_wp2_with fail
 clear t0 t1 t2 t3 t4 t5 q0 q1 q2 q3 q4 q5 u0 u1 u2 u3 u4 u5;generalize ((((((zX.setCell ⟨w.heap.size + 2, 0, U⟩ (G la nl lc)).setCell ⟨w.heap.size + 2, 1, U⟩ (E J W.hd.boot)).setCell ⟨w.heap.size + 2, 2, U⟩ (E J W.hd.next)).setCell ⟨w.heap.size + 2, 3, U⟩ (G oa no oc)).setCell ⟨w.heap.size + 2, 4, U⟩ (G (some ⟨g3, 0, U⟩) n3 c3)).setCell ⟨w.heap.size + 2, 5, U⟩ (G na nn nc)) = Z9 at *;refine bodyPost_ret (v := .agg #[G la nl lc, E J W.hd.boot, E J W.hd.next, G oa no oc, G (some ⟨g3, 0, U⟩) n3 c3, G na nn nc]) ?_ rfl ⟨_, rfl, HFF.out.1, HFF.out.2⟩;simp [results, Tryz.results71, go_sem, e0, e1, e2, e3, e4, e5]
open Go.RowKit Go.Maps Go.WideMaps
def ikl (n : Int) : Lit := .int J n
def In1 (n : Int) : Prop := (Lit.int J n).wf = true
theorem zg9 : Keyed Tryz.prog 3 := int_keyed Tryz.underlying3
theorem zhb (n : Int) (h : In1 n) : keyOf Tryz.prog 3 (.int J n) = some (ikl n) := keyOf_int_mk Tryz.underlying3 h
theorem ikl_inj {p q : Int} (h : ikl p = ikl q) : p = q := by injection h
def SetI (w : World) (b : Nat) (ps : List Int) : Prop := w.ownsMap (H := Unit) Tryz.prog 3 (plainElem Tryz.prog 4) b ps.length (setOf (.lit (.bool true)) (ps.map ikl)) ∧ ∀ p ∈ ps, In1 p
theorem zmp (q : Int) (hq : In1 q) : ∀ (ps : List Int) (m : DataW Unit), IsMap m → (∀ p ∈ ps, In1 p) →
  ((ps.map ikl).foldl (fun m x => m.put x (.lit (.bool true))) m).atKey (ikl q) (.lit (.bool false)) = if (ps.any fun p => decide (p = q)) = true then .lit (.bool true) else m.atKey (ikl q) (.lit (.bool false))
 | [], m, _, _ => by simp
 | p :: t, m, hm, h => by
  have hp := h p (by simp);rw [List.map_cons, List.foldl_cons, zmp q hq t _ (hm.put _ _) (fun jj hr => h jj (by simp [hr])), List.any_cons];by_cases e : p = q
  ·subst e
   rw [atKey_put_same hm (zg9.key (zhb p hp))];simp
  ·rw [atKey_put_other (fun h => e (ikl_inj h.symm))]
   simp [e]
theorem znt (ps : List Int) (hps : ∀ p ∈ ps, In1 p) (q : Int) (hq : In1 q) : (setOf (H := Unit) (.lit (.bool true)) (ps.map ikl)).atKey (ikl q) (.lit (.bool false)) = .lit (.bool (ps.any fun p => decide (p = q))) := by
 unfold setOf
 rw [zmp q hq ps _ isMap_empty hps];cases ps.any fun p => decide (p = q) <;> rfl
theorem SetI.lookup {w : World} {b : Nat} {ps : List Int} (h : SetI w b ps) (q : Int) (hq : In1 q) : (Instr.lookup 78 (.map (some b)) (.int J q) false).run Tryz.prog w = .ok (.bool (ps.any fun p => decide (p = q))) w := by
 obtain ⟨v, pl, hrun, hv⟩ := h.1.lookup zg9 Tryz.underlying78 (zkw w) (plainElem_bool Tryz.underlying4 false) (zhb q hq);rw [znt ps h.2 q hq] at hv;rw [zlf hv] at hrun;exact hrun
theorem SetI.below {w w' : World} {B b : Nat} {ps : List Int} (h : SetI w b ps) (hb : Z B w w') (hlt : b < B) : SetI w' b ps := by
 refine ⟨?_, h.2⟩;obtain ⟨es, clock, hh, jj⟩ := h.1;exact ⟨es, clock, (hb.block b hlt).trans hh, jj⟩
theorem SetI.alloc {w : World} {b : Nat} {ps : List Int} (h : SetI w b ps) (o : Obj) : SetI (w.alloc o) b ps := ⟨h.1.alloc o, h.2⟩
theorem SetI.lt {w : World} {b : Nat} {ps : List Int} (h : SetI w b ps) : b < w.heap.size := h.1.lt
open Go.RowKit Go.Maps Go.WideMaps
theorem zeroInt (w : World) : (zeroValue 3).run Tryz.prog w = .ok (E J 0) w := by kernel_rfl
theorem kindMap (w : World) (k : Int) (hk : k = 4 ∨ k = 5) : ∃ w1 w2, (Instr.mapUpdate 145 (.map (some w.heap.size)) (E J 4) (E J 2)).run Tryz.prog (w.alloc (.map #[] 0)) = .ok () w1 ∧ (Instr.mapUpdate 145 (.map (some w.heap.size)) (E J 5) (E J 3)).run Tryz.prog w1 = .ok () w2 ∧
  (Instr.lookup 145 (.map (some w.heap.size)) (E J k) false).run Tryz.prog w2 = .ok (E J (k - 2)) w2 ∧ Z w.heap.size w w2 := by
 have h0 := World.ownsMap_made (H := Unit) w Tryz.prog 3 (plainElem Tryz.prog 3);obtain ⟨w1, r1, o1, b1⟩ := h0.update zg9 Tryz.underlying145 (by unfold maxLen; omega) (zhb 4 (by unfold In1; decide)) (plainElem_int Tryz.underlying3 (a := 2) (by decide));obtain ⟨w2, r2, o2, b2⟩ := o1.update zg9 Tryz.underlying145 (by unfold maxLen; omega) (zhb 5 (by unfold In1; decide)) (plainElem_int Tryz.underlying3 (a := 3) (by decide));obtain ⟨c, r3, hat, _⟩ := o2.lookup_int zg9 Tryz.underlying145 Tryz.underlying3 (zeroInt w2) (key := E J k) (kl := ikl k) (zhb k (by rcases hk with rfl | rfl <;> (unfold In1; decide)))
 have hc : c = k - 2 := by
  rcases hk with rfl | rfl
  ·have e : (((DataW.map [] : DataW Unit).put (ikl 4) (.lit (.int J 2))).put (ikl 5) (.lit (.int J 3))).atKey (ikl 4) (.lit (.int J 0)) = .lit (.int J 2) := by kernel_rfl
   rw [e] at hat;injection hat with hat
   injection hat with _ hat
   omega
  ·have e : (((DataW.map [] : DataW Unit).put (ikl 4) (.lit (.int J 2))).put (ikl 5) (.lit (.int J 3))).atKey (ikl 5) (.lit (.int J 0)) = .lit (.int J 3) := by kernel_rfl
   rw [e] at hat;injection hat with hat
   injection hat with _ hat
   omega
 rw [hc] at r3;exact ⟨w1, w2, r1, r2, r3, (((Below.refl _ w).alloc (Nat.le_refl _) _).grown b1 (by simp) (fun q hq => by cases hq; exact Nat.le_refl _)).grown b2 (by have := b1.size; simp at this; omega) (fun q hq => by cases hq; exact Nat.le_refl _)⟩
end Go.Proofs.YtpcnlifmkhagkaaGreat
