import Derived.Test.YtpcnlifmkhagkaaGreatKTJ10
import Derived.Laws.BitsAllLaws
set_option maxRecDepth 20000
set_option maxHeartbeats 20000000
namespace Go.Proofs.YtpcnlifmkhagkaaGreat
open Go.RowKit
open Go.Value renaming slice → G, int → E
open Go.IntKind renaming i64 → J
open _root_.Option renaming none → U
open Go.Obj renaming cells → T
open Go.RowKit renaming Hid → Q, Below → Z
open Go.World renaming setCell → r
open _root_.Nat renaming le_refl → kaa
open _root_.List renaming mem_append → kab, mem_singleton → kac
attribute [local go_sem ↓] Go.wp_at_zero Go.wp_at_succ
theorem zb0 {w : World} {N : Nat} {zV : TypeId} {c0 c1 c2 c3 : Value} (hb : Blk w N #[c0, c1, c2, c3] zV) (v0 v1 v2 v3 : Value) :
  Blk (r (r (r (r w ⟨N, 0, U⟩ v0) ⟨N, 1, U⟩ v1) ⟨N, 2, U⟩ v2) ⟨N, 3, U⟩ v3) N #[v0, v1, v2, v3] zV ∧ zf (fun b => b = N) w (r (r (r (r w ⟨N, 0, U⟩ v0) ⟨N, 1, U⟩ v1) ⟨N, 2, U⟩ v2) ⟨N, 3, U⟩ v3) := by
 refine ⟨(fill4 hb v0 v1 v2 v3).1, ?_⟩;have k0 := (zf.refl (fun b => b = N) w).setCell (p := ⟨N, 0, U⟩) rfl v0;have k1 := k0.setCell (p := ⟨N, 1, U⟩) rfl v1;have k2 := k1.setCell (p := ⟨N, 2, U⟩) rfl v2;exact k2.setCell (p := ⟨N, 3, U⟩) rfl v3
theorem zhy (R : Nat → Prop) (w : World) (m : Nat) : ∃ R' : Nat → Prop, (∀ b, R b → R' b) ∧ (∀ b, w.heap.size ≤ b → b < w.heap.size + m → R' b) ∧ (∀ b, R' b → R b ∨ w.heap.size ≤ b) ∧ (∀ b, R' b → (∀ c, R c → c < w.heap.size) → b < w.heap.size + m) :=
 ⟨fun b => R b ∨ (w.heap.size ≤ b ∧ b < w.heap.size + m), fun _ h => Or.inl h, fun _ h1 h2 => Or.inr ⟨h1, h2⟩, fun _ h => h.elim Or.inl (fun x => Or.inr x.1), fun b h hR => h.elim (fun x => by have := hR b x; omega) (fun x => x.2)⟩
theorem zm1 (R : Nat → Prop) (v : Value) (g : Gh) (w : World) (hR : ∀ b, R b → b < w.heap.size) (hv : zy R w v g) (hl : g.log.length ≤ 900000) :
  Calls Tryz.prog 10 #[v] w fun e w' => ∃ v', e = .returned (.tuple #[v', E J (zq g).2]) ∧ zy R w' v' (zq g).1 ∧ Z w.heap.size w w' := by
 obtain ⟨la, nl, lc, Y, oa, no, oc, X, rfl, hF⟩ := hv;obtain ⟨R', r1, r2, r3, r4⟩ := zhy R w 2;obtain ⟨L, bt, nx, O⟩ := g;simp only at hF hl ⊢
 have hYl : Y.length ≤ 900000 := by rw [← hF.says, List.length_map] at hl; exact hl
 have hbX := zaw w (T #[G la nl lc, E J bt, E J nx, G oa no oc] 29) (T #[G U 0 0, E J 0, E J 0, G U 0 0] 29);have hN0 : Blk ((w.alloc (T #[G la nl lc, E J bt, E J nx, G oa no oc] 29)).alloc (T #[G U 0 0, E J 0, E J 0, G U 0 0] 29)) w.heap.size #[G la nl lc, E J bt, E J nx, G oa no oc] 29 := (Blk.new _ _ _).alloc _;have hN1 : Blk ((w.alloc (T #[G la nl lc, E J bt, E J nx, G oa no oc] 29)).alloc (T #[G U 0 0, E J 0, E J 0, G U 0 0] 29)) (w.heap.size + 1) #[G U 0 0, E J 0, E J 0, G U 0 0] 29 := zao _ _ _;have hsX : ((w.alloc (T #[G la nl lc, E J bt, E J nx, G oa no oc] 29)).alloc (T #[G U 0 0, E J 0, E J 0, G U 0 0] 29)).heap.size = w.heap.size + 2 := by simp
 have HR : Q ((∀ b, R b → R' b) ∧ R' (w.heap.size + 1) ∧ (∀ b, R' b → b < w.heap.size + 2)) := ⟨r1, r2 _ (by omega) (by omega), fun b hb => r4 b hb hR⟩;go_enter Tryz.func10, Tryz.ntmps10
 by_cases c : 19 < bt
 ·have HE : Q (zq ⟨L, bt, nx, O⟩ = (⟨L, bt, nx, O⟩, 5)) := by show _ = _; unfold zq; rw [if_pos c]
  have HG := zA hF;clear hF r1 r2 r3 r4 hR hl hYl hbX hN0 hN1 hsX;have hbX := zaw w (T #[G la nl lc, E J bt, E J nx, G oa no oc] 29) (T #[G la nl lc, E J bt, E J nx, G oa no oc] 29);have hN1 : Blk ((w.alloc (T #[G la nl lc, E J bt, E J nx, G oa no oc] 29)).alloc (T #[G la nl lc, E J bt, E J nx, G oa no oc] 29)) (w.heap.size + 1) #[G la nl lc, E J bt, E J nx, G oa no oc] 29 := zao _ _ _;go_wp2_with fail
  generalize ((w.alloc (T #[G la nl lc, E J bt, E J nx, G oa no oc] 29)).alloc (T #[G la nl lc, E J bt, E J nx, G oa no oc] 29)) = jz at *;have HF : Q (zy R jz (.agg #[G la nl lc, E J bt, E J nx, G oa no oc]) ⟨L, bt, nx, O⟩ ∧ Z w.heap.size w jz) := ⟨⟨la, nl, lc, Y, oa, no, oc, X, rfl, HG.out.below hbX⟩, hbX⟩;obtain ⟨e0, e1, e2, e3⟩ := hN1.cells4;clear hbX hN1;refine bodyPost_ret (v := .tuple #[.agg #[G la nl lc, E J bt, E J nx, G oa no oc], E J 5]) ?_ rfl ⟨_, by rw [HE.out], by rw [HE.out]; exact HF.out.1, HF.out.2⟩;simp [results, Tryz.results10, go_sem, e0, e1, e2, e3]
 ·have HE : Q (zq ⟨L, bt, nx, O⟩ = (zn (L ++ [(4, 0, [])]), 0)) := by show _ = _; unfold zq; rw [if_neg c]
  have HG := zB (hF.wide r3) hYl;clear hF r1 r2 r3 r4 hR hl;go_upto_region 3 with fail
  generalize ((w.alloc (T #[G la nl lc, E J bt, E J nx, G oa no oc] 29)).alloc (T #[G U 0 0, E J 0, E J 0, G U 0 0] 29)) = V at *;have hNl := hN0.cell 0;simp only [List.getElem?_toArray, List.getElem?_cons_zero] at hNl
  have hNs := hN0.lt;have HsX := zA hsX;clear hsX
  go_wp2_with (
   first
   | (at_builtin; refine zhe za7 zcs Tryz.underlying26 zcp rfl (by decide) _ rfl _ _ rfl (w.heap.size + 2) (G a5 n5 c5) Y rfl (HO5.out.below (zh w5 _)) (some ⟨w5.heap.size, 0, U⟩) 1 1 [(4, 0, (none, 0), [])] rfl rfl (zi.one (Blk.new w5 _ _) rfl) (by unfold maxLen; simp; omega) (by simp; omega) (by simp; omega) ?_; intro a6 n6 c6 w6 hown6 hn6 hb6; have hr6 := hown6.at za7; have HO6 : Q (zi 3 zah w6 a6 (Y ++ [(4, 0, (none, 0), [])]) ∧ n6 = (Y ++ [((4, 0, (none, 0), []) : XL)]).length ∧ Out R' a6 (Y ++ [((4, 0, (none, 0), []) : XL)]).length ∧ Z w.heap.size w w6 ∧ Blk w6 (w.heap.size + 1) #[G U 0 0, E J 0, E J 0, G U 0 0] 29 ∧ w.heap.size + 2 ≤ w6.heap.size) := ⟨hr6.1, hr6.2.1, hown6.outR (fun b hb => HR.out.2.2 b hb), (HB5.out.1.alloc hs5 _).trans (hb6.mono (by omega)), (HB5.out.2.alloc _).below hb6 (by omega), by have := hb6.size; simp at this; omega⟩; clear hown6 hn6 hb6 hr6)
   | (at_builtin; refine zhe za7 zcs Tryz.underlying26 zcp rfl (by decide) _ rfl _ _ rfl (w.heap.size + 2) (G (some ⟨V.heap.size, 0, U⟩) 0 0) [] rfl (zag.made (Blk.new _ _ _) _) la nl lc Y rfl HG.out.1.ln ((HG.out.1.log.below hbX).below (zh _ _)) (by unfold maxLen; simp; omega) (by simp; omega) (by have := HsX.out; rw [World.size_alloc]; omega) ?_; intro a5 n5 c5 w5 hown5 hn5 hb5; have HO5 : Q (zag 40 3 zah w5 (w.heap.size + 2) (G a5 n5 c5) Y) := hown5; have HB5 : Q (Z w.heap.size w w5 ∧ Blk w5 (w.heap.size + 1) #[G U 0 0, E J 0, E J 0, G U 0 0] 29) := ⟨(hbX.alloc hbX.size _).trans (hb5.mono (by omega)), (hN1.alloc _).below hb5 (by omega)⟩; have hs5 : w.heap.size ≤ w5.heap.size := HB5.out.1.size; have hs5' : w.heap.size + 2 ≤ w5.heap.size := Nat.le_trans (Nat.le_of_eq HsX.out.symm) (by have := hb5.size; simp at this; omega); clear hown5 hn5 hb5))
  have hmap : (Y ++ [((4, 0, (U, 0), []) : XL)]).map ze = L ++ [(4, 0, [])] := by rw [List.map_append, HG.out.1.says]; rfl
  have HH := zgh (fun a l => zz R' w a l) R' a6 (Y ++ [(4, 0, (none, 0), [])]) c6 n6 w6 HO6.out.2.1 (by simp; omega) (fun b hb => by have := HR.out.2.2 b hb; have := HO6.out.2.2.2.2.2; omega) (fun a l h => h.below HO6.out.2.2.2.1)
   ⟨HO6.out.1, fun x hx => by
    rcases kab.1 hx with hx | hx
    ·exact ((HG.out.1.parts x hx).below HO6.out.2.2.2.1).1
    ·rw [kac.1 hx]; exact Or.inl rfl⟩ HO6.out.2.2.1 (fun x hx => by
    rcases kab.1 hx with hx | hx
    ·exact HG.out.1.parts x hx
    ·rw [kac.1 hx]; exact zz.nil _ _ _)
  rw [hmap] at HH;refine HH.mono ?_;rintro e w7 ⟨v7, rfl, hv7, hb7⟩;obtain ⟨la', nl', lc', Y', oa', no', oc', X', rfl, hF7⟩ := hv7;have hN7 := HO6.out.2.2.2.2.1.below hb7 HO6.out.2.2.2.2.1.lt;have hK := zb0 hN7 (G la' nl' lc') (E J (zn (L ++ [(4, 0, [])])).boot) (E J (zn (L ++ [(4, 0, [])])).next) (G oa' no' oc');obtain ⟨u0, u1, u2, u3⟩ := hN7.cells4;obtain ⟨f0, f1, f2, f3⟩ := hN7.free4;have hB7 := HO6.out.2.2.2.1.trans (hb7.mono (by have := HO6.out.2.2.2.2.2; omega));clear HH hmap hb7;generalize zn (L ++ [(4, 0, [])]) = zJ at *;obtain ⟨GL, gb, gn, GO⟩ := zJ;simp only at hF7 hK
  have HF : Q (zy R (r (r (r (r w7 ⟨w.heap.size + 1, 0, U⟩ (G la' nl' lc')) ⟨w.heap.size + 1, 1, U⟩ (E J gb)) ⟨w.heap.size + 1, 2, U⟩ (E J gn)) ⟨w.heap.size + 1, 3, U⟩ (G oa' no' oc')) (.agg #[G la' nl' lc', E J gb, E J gn, G oa' no' oc']) ⟨GL, gb, gn, GO⟩ ∧ Z w.heap.size w (r (r (r (r w7 ⟨w.heap.size + 1, 0, U⟩ (G la' nl' lc')) ⟨w.heap.size + 1, 1, U⟩ (E J gb)) ⟨w.heap.size + 1, 2, U⟩ (E J gn)) ⟨w.heap.size + 1, 3, U⟩ (G oa' no' oc'))) :=
   ⟨⟨la', nl', lc', Y', oa', no', oc', X', rfl, (hF7.keep (hK.2.mono (fun b _ hb => by subst hb; exact HR.out.2.1))).wide (fun b hb => Or.inl (HR.out.1 b hb))⟩, hB7.trans (hK.2.below hB7.size (fun b hb => by omega))⟩
  obtain ⟨e0, e1, e2, e3⟩ := hK.1.cells4;clear hF7 hN7 hK hB7;go_wp2_with fail
  clear u0 u1 u2 u3 f0 f1 f2 f3;generalize (r (r (r (r w7 ⟨w.heap.size + 1, 0, U⟩ (G la' nl' lc')) ⟨w.heap.size + 1, 1, U⟩ (E J gb)) ⟨w.heap.size + 1, 2, U⟩ (E J gn)) ⟨w.heap.size + 1, 3, U⟩ (G oa' no' oc')) = jz at *;refine bodyPost_ret (v := .tuple #[.agg #[G la' nl' lc', E J gb, E J gn, G oa' no' oc'], E J 0]) ?_ rfl ⟨_, by rw [HE.out], by rw [HE.out]; exact HF.out.1, HF.out.2⟩;simp [results, Tryz.results10, go_sem, e0, e1, e2, e3]
theorem zm.keptT {w w' : World} {base : Nat} {v : Value} {ms : List Q4} (h : zm w base v ms) {row : Option Nat} (hg : w.grownBy w' row) (hne : ∀ k, row = some k → ∃ cs t, Blk w k cs t ∧ t ≠ 25 ∧ t ≠ 90) : zm w' base v ms := by
 obtain ⟨X, h1, h2, h3⟩ := h;refine ⟨X, h1.keptT hg (fun k hk => ?_), h2, fun x hx => (h3 x hx).calm (zg.grown hg (fun k hk => ?_))⟩
 ·obtain ⟨cs, t, hb, hn, _⟩ := hne k hk
  exact ⟨cs, t, hb, hn⟩
 ·obtain ⟨cs, t, hb, _, hn⟩ := hne k hk
  exact ⟨cs, t, hb, hn⟩
theorem za.kinds {α : Type} {e t t' : TypeId} {size : Nat} {enc : α → List Value} {w : World} {base : Nat} {v : Value} {xs : List α} (h : za e size enc w base v xs) (h1 : e ≠ t) (h2 : e ≠ t') : ∀ k, v.ownBlock = some k → ∃ cs t0, Blk w k cs t0 ∧ t0 ≠ t ∧ t0 ≠ t' := fun k hk => by
 obtain ⟨_, cs, hb⟩ := h.blk hk;exact ⟨cs, e, hb, h1, h2⟩
theorem filt_yes {X : List XO} {k : Nat} (h : k < X.length) (hd : X[k].2.2.1 = true) : (X.take (k + 1)).filter (fun x => x.2.2.1) = (X.take k).filter (fun x => x.2.2.1) ++ [X[k]] := by rw [zav h, List.filter_append]; simp [hd]
theorem filt_no {X : List XO} {k : Nat} (h : k < X.length) (hd : X[k].2.2.1 = false) : (X.take (k + 1)).filter (fun x => x.2.2.1) = (X.take k).filter (fun x => x.2.2.1) := by rw [zav h, List.filter_append]; simp [hd]
theorem filn_yes {O : List O4} {k : Nat} (h : k < O.length) (hd : O[k].2.2.1 = true) : ((O.take (k + 1)).filter (fun x => !x.2.2.1)).flatMap za3 = ((O.take k).filter (fun x => !x.2.2.1)).flatMap za3 := by rw [zav h, List.filter_append]; simp [hd]
theorem filn_no {O : List O4} {k : Nat} (h : k < O.length) (hd : O[k].2.2.1 = false) : ((O.take (k + 1)).filter (fun x => !x.2.2.1)).flatMap za3 = ((O.take k).filter (fun x => !x.2.2.1)).flatMap za3 ++ za3 O[k] := by rw [zav h, List.filter_append]; simp [hd]
theorem zkj (R : Nat → Prop) (v : Value) (g : Gh) (w : World) (hR : ∀ b, R b → b < w.heap.size) (hv : zy R w v g) (hf : zcf g.opn) :
  Calls Tryz.prog 16 #[v] w fun e w' => ∃ v' sv, e = .returned (.tuple #[v', sv]) ∧ zy R w' v' (zk g).1 ∧ zm w' w.heap.size sv (zk g).2 ∧ Z w.heap.size w w' := by
 obtain ⟨la, nl, lc, Y, oa, no, oc, X, rfl, hF⟩ := hv;obtain ⟨R', r1, r2, r3, r4⟩ := zhy R w 2;obtain ⟨L, bt, nx, O⟩ := g;simp only at hF hf
 have hbX := zaw w (T #[G la nl lc, E J bt, E J nx, G oa no oc] 29) (T #[G U 0 0, E J 0, E J 0, G U 0 0] 29);have hN0 : Blk ((w.alloc (T #[G la nl lc, E J bt, E J nx, G oa no oc] 29)).alloc (T #[G U 0 0, E J 0, E J 0, G U 0 0] 29)) w.heap.size #[G la nl lc, E J bt, E J nx, G oa no oc] 29 := (Blk.new _ _ _).alloc _;have hN1 : Blk ((w.alloc (T #[G la nl lc, E J bt, E J nx, G oa no oc] 29)).alloc (T #[G U 0 0, E J 0, E J 0, G U 0 0] 29)) (w.heap.size + 1) #[G U 0 0, E J 0, E J 0, G U 0 0] 29 := zao _ _ _;have hsX : ((w.alloc (T #[G la nl lc, E J bt, E J nx, G oa no oc] 29)).alloc (T #[G U 0 0, E J 0, E J 0, G U 0 0] 29)).heap.size = w.heap.size + 2 := by simp
 have HR : Q ((∀ b, R b → R' b) ∧ R' w.heap.size ∧ R' (w.heap.size + 1) ∧ (∀ b, R' b → b < w.heap.size + 2)) := ⟨r1, r2 _ (by omega) (by omega), r2 _ (by omega) (by omega), fun b hb => r4 b hb hR⟩;have HG : Q (zbh R' w la nl Y oa no X L O ∧ zcf O ∧ X.length = O.length) := ⟨hF.wide r3, hf, by rw [← hF.osays, List.length_map]⟩;have hnl : no ≤ 100000 := by have h1 := hF.on; have h2 := hf.1; have h3 := HG.out.2.2; omega
 clear hF r1 r2 r3 r4 hR hf;go_enter Tryz.func16, Tryz.ntmps16
 go_upto_region 3 with fail
 generalize ((w.alloc (T #[G la nl lc, E J bt, E J nx, G oa no oc] 29)).alloc (T #[G U 0 0, E J 0, E J 0, G U 0 0] 29)) = V at *;have HV := zD hbX hN0 hN1 hsX;have n3 := hN0.cell 3;simp only [List.getElem?_toArray, List.getElem?_cons_zero, List.getElem?_cons_succ] at n3
 have nl0 := hN0.lt;clear hbX hN0 hN1 hsX;go_wp2;clear n3;go_loopw [4, 5, 11] (fun rv sv i w' => ∃ k : Nat, k ≤ no ∧ i = E J k ∧ Q (za 58 4 zaj w' V.heap.size rv ((X.take k).filter (fun x => x.2.2.1)) ∧ zm w' V.heap.size sv (((O.take k).filter (fun x => !x.2.2.1)).flatMap za3) ∧ Z V.heap.size V w')) (fun _ _ i _ => no - (intOf i).toNat)
 case atStart => exact ⟨0, Nat.zero_le _, rfl, za.nil _ _, zm.nil _ _, Below.refl _ _⟩
 case round =>
  obtain ⟨k, hk, rfl, hH⟩ := hrel;by_cases hlt : k < no
  ·have hkX : k < X.length := by have := HG.out.1.on; omega
   have hkO : k < O.length := by have := HG.out.2.2; omega
   obtain ⟨hO, hM, hbw⟩ := hH.out;have hbW := HV.out.1.trans (hbw.mono HV.out.1.size);have hsz := hbw.size
   have hOk : O[k] = zw X[k] := by
    have : O = X.map zw := HG.out.1.osays.symm;subst this;rw [List.getElem_map]
   have hfk := HG.out.2.1.2 O[k] (List.getElem_mem hkO);have HY1 : Q (X[k].2.2.1 = true → (X.take (k + 1)).filter (fun x => x.2.2.1) = (X.take k).filter (fun x => x.2.2.1) ++ [X[k]] ∧ ((O.take (k + 1)).filter (fun x => !x.2.2.1)).flatMap za3 = ((O.take k).filter (fun x => !x.2.2.1)).flatMap za3) := fun h => ⟨filt_yes hkX h, filn_yes hkO (by rw [hOk]; exact h)⟩
   have HY2 : Q (X[k].2.2.1 = false → (X.take (k + 1)).filter (fun x => x.2.2.1) = (X.take k).filter (fun x => x.2.2.1) ∧ ((O.take (k + 1)).filter (fun x => !x.2.2.1)).flatMap za3 = ((O.take k).filter (fun x => !x.2.2.1)).flatMap za3 ++ za3 (zw X[k])) := fun h => ⟨filt_no hkX h, by rw [filn_no hkO (by rw [hOk]; exact h), hOk]⟩
   have hlr : ((X.take k).filter (fun x => x.2.2.1)).length ≤ 100000 := by have h1 := List.length_filter_le (fun x : XO => x.2.2.1) (X.take k); rw [List.length_take] at h1; omega
   have hlm : (((O.take k).filter (fun x => !x.2.2.1)).flatMap za3).length ≤ 300000 := by
    have h1 := zf8 zgs ((O.take k).filter (fun x => !x.2.2.1));have h2 := List.length_filter_le (fun x : O4 => !x.2.2.1) (O.take k);rw [List.length_take] at h2;omega
   obtain ⟨g, o, rfl, hg, d0, d1, d2, d3, hq⟩ := (HG.out.1.opns.lies.below hbW).get hkX;rw [hOk] at hfk;generalize (X.take k).filter (fun x => x.2.2.1) = jz at *;generalize ((O.take k).filter (fun x => !x.2.2.1)).flatMap za3 = ms at *;generalize X[k] = x at *;obtain ⟨dd, ⟨⟨pa, pc⟩, l⟩, dec, ⟨ha, hc⟩, hd⟩ := x;obtain ⟨av, nv, cv, rfl⟩ := hO.slice zaq;have HW : Q (za 58 4 zaj wr V.heap.size (G av nv cv) jz ∧ zm wr V.heap.size u5 ms ∧ Z V.heap.size V wr ∧ zae wr pa l ∧ l.length ≤ 4) := ⟨hO, hM, hbw, hq.1, hfk.1⟩;simp only [zw] at d0 d1 d2 d3 HY1 HY2
   obtain ⟨ln, hn, HLL⟩ : ∃ ln hn, Q (l.length = ln ∧ hd.length = hn) := ⟨_, _, rfl, rfl⟩;rw [HLL.out.1] at d1;rw [HLL.out.2] at d3;clear hH hO hM hbw hbW hq hfk hOk hkO hkX;have HB2 : Q (Z wr.heap.size wr ((wr.alloc (T #[E J dd, G pa ln pc, .bool dec, G ha hn hc] 58)).alloc (T #[E J dd, G pa ln pc, .bool dec, G ha hn hc] 58))) := zaw _ _ _
   cases dec with
   | true =>
    have HE := HY1.out rfl;have HE1 : Q _ := HE;clear HE HY1 HY2;go_wp2_with (at_builtin; refine zbi zaq oneQ Tryz.underlying27 zd9 rfl (by decide) _ rfl _ _ rfl V.heap.size _ jz rfl (HW.out.1.below HB2.out (kaa _)) (some ⟨wr.heap.size + 1, 0, U⟩) 1 1 [(dd, ((pa, pc), l), true, ((ha, hc), hd))] rfl rfl (zi.one (zao wr _ _) (by simp [zaj, HLL.out.1, HLL.out.2])) (by unfold maxLen; simp; omega) (by simp; omega) (by simp; omega) ?_; intro a4 n4 c4 w4 jy hn4 jq jw; clear hn4)
    have HF : Q (za 58 4 zaj w4 V.heap.size (G a4 n4 c4) ((X.take (k + 1)).filter (fun x => x.2.2.1)) ∧ zm w4 V.heap.size u5 (((O.take (k + 1)).filter (fun x => !x.2.2.1)).flatMap za3) ∧ Z V.heap.size V w4) := by
     rw [HE1.out.1, HE1.out.2];exact ⟨jy, (HW.out.2.1.below HB2.out).keptT jq ((HW.out.1.below HB2.out (kaa _)).kinds (by decide) (by decide)), (HW.out.2.2.1.trans (HB2.out.mono hsz)).grown jq (by simp; omega) HW.out.1.base⟩
    clear jy jq jw d0 d1 d2 d3;go_wp2;go_roundw
    case rel => exact ⟨k + 1, by omega, by go_num, HF⟩
    case measure => simp [intOf]; omega
   | false =>
    have HE := HY2.out rfl;have HE1 : Q _ := HE;clear HE HY1 HY2 HB2;obtain ⟨zX, hUl, hU, hUs, hUT⟩ := HW.out.2.1.len;obtain ⟨a5, n5, c5, rfl⟩ := hU.slice zbu;have HU := zC hU hUs hUT;have hU3 : zX.length ≤ 300000 := by omega
    clear hU hUs hUT hUl;go_wp2_with fail
    have hbA := zh wr (T #[E J dd, G pa ln pc, .bool false, G ha hn hc] 58);have hsA : Q ((wr.alloc (T #[E J dd, G pa ln pc, .bool false, G ha hn hc] 58)).heap.size = wr.heap.size + 1) := World.size_alloc _ _;generalize wr.alloc (T #[E J dd, G pa ln pc, .bool false, G ha hn hc] 58) = A at *;refine (zky dd pa ln pc l false ha hn hc hd A HLL.out.1.symm HW.out.2.2.2.2 (HW.out.2.2.2.1.below hbA)).mono ?_;rintro e w2 ⟨v2, rfl, hM2, hb2⟩;have hml2 := zgs (dd, l, false, hd);obtain ⟨zV, hTl, hT, hTs, hTT⟩ := hM2.len;obtain ⟨a2, n2, c2, rfl⟩ := hT.slice zbu;have hTr := hT.at zbu;have hT3 : zV.length ≤ 3 := by omega
    have HT := zE hTs hTT hTr.2.1 hTr.1 (hbA.trans (hb2.mono hbA.size));have hs2 := HT.out.2.2.2.2.size;have hsA2 := hbA.size;clear hM2 hT hTs hTT hTr hb2 hbA hTl hml2 d0 d1 d2 d3;go_wp2_with (at_builtin; refine zbi zbu oneM Tryz.underlying41 zfl rfl (by decide) _ rfl _ _ rfl V.heap.size _ zX rfl (HU.out.1.below HT.out.2.2.2.2 (kaa _)) a2 n2 c2 zV rfl HT.out.2.2.1 HT.out.2.2.2.1 (by unfold maxLen; omega) (by omega) (by omega) ?_; intro a4 n4 c4 w4 jy hn4 jq jw; clear hn4)
    have HF : Q (za 58 4 zaj w4 V.heap.size (G av nv cv) ((X.take (k + 1)).filter (fun x => x.2.2.1)) ∧ zm w4 V.heap.size (G a4 n4 c4) (((O.take (k + 1)).filter (fun x => !x.2.2.1)).flatMap za3) ∧ Z V.heap.size V w4) := by
     rw [HE1.out.1, HE1.out.2];refine ⟨(HW.out.1.below HT.out.2.2.2.2 (kaa _)).keptT jq ((HU.out.1.below HT.out.2.2.2.2 (kaa _)).grownT (by decide)), ?_, (HW.out.2.2.1.trans (HT.out.2.2.2.2.mono hsz)).grown jq (by omega) HU.out.1.base⟩;exact zm.app HU.out.2.1 HU.out.2.2 (zg.below HT.out.2.2.2.2 (kaa _)) (HU.out.1.below HT.out.2.2.2.2 (kaa _)) jq jy HT.out.1 (fun y hy => (HT.out.2.1 y hy).mono (by omega))
    clear jy jq jw;go_wp2;go_roundw
    case rel => exact ⟨k + 1, by omega, by go_num, HF⟩
    case measure => simp [intOf]; omega
  ·have hH2 : za 58 4 zaj wr V.heap.size u4 (X.filter (fun x => x.2.2.1)) ∧ zm wr V.heap.size u5 ((O.filter (fun x => !x.2.2.1)).flatMap za3) ∧ Z V.heap.size V wr := by
    have := hH.out;rwa [List.take_of_length_le (by have h1 := HG.out.1.on; omega), List.take_of_length_le (by have h1 := HG.out.1.on; have h2 := HG.out.2.2; omega)] at this
   obtain ⟨hO, hM, hbw⟩ := hH2;obtain ⟨av, nv, cv, rfl⟩ := hO.slice zaq;have hat := hO.at zaq;have hB0 := HV.out.2.1.below hbw HV.out.2.1.lt;have hB1 := HV.out.2.2.1.below hbw HV.out.2.2.1.lt;have hbW := HV.out.1.trans (hbw.mono HV.out.1.size);have hS3 : Blk (r wr ⟨w.heap.size, 3, U⟩ (G av nv cv)) w.heap.size #[G la nl lc, E J bt, E J nx, G av nv cv] 29 := hB0.set 3 _;have hS31 : Blk (r wr ⟨w.heap.size, 3, U⟩ (G av nv cv)) (w.heap.size + 1) #[G U 0 0, E J 0, E J 0, G U 0 0] 29 := hB1.setOther (a := ⟨w.heap.size, 3, U⟩) (by simp) _;have hK3 : zf R' wr (r wr ⟨w.heap.size, 3, U⟩ (G av nv cv)) := (zf.refl R' wr).setCell (p := ⟨w.heap.size, 3, U⟩) HR.out.2.1 _;have hbS : Z w.heap.size w (r wr ⟨w.heap.size, 3, U⟩ (G av nv cv)) := hbW.setCell (kaa _) _;have hFw := (HG.out.1.below hbW).keep hK3
   have hMs : zm (r wr ⟨w.heap.size, 3, U⟩ (G av nv cv)) V.heap.size u5 ((O.filter (fun x => !x.2.2.1)).flatMap za3) := by
    obtain ⟨jz, z1, z2, z3⟩ := hM;exact ⟨jz, z1.setOther (a := ⟨w.heap.size, 3, U⟩) hB0 (by decide) _, z2, fun x hx => (z3 x hx).calm (zg.setCell (a := ⟨w.heap.size, 3, U⟩) hB0 (by decide) _)⟩
   have hOs : za 58 4 zaj (r wr ⟨w.heap.size, 3, U⟩ (G av nv cv)) V.heap.size (G av nv cv) (X.filter (fun x => x.2.2.1)) := hO.setOther (a := ⟨w.heap.size, 3, U⟩) hB0 (by decide) _;have m3 := hB0.cell 3;have k3 := hB0.free 3;simp only [List.getElem?_toArray, List.getElem?_cons_zero, List.getElem?_cons_succ] at m3
   have hbl := hB0.lt;clear hH hO hM hB0 hB1 hbw hbW hK3 hat;go_upto_region 11 with fail
   clear m3 k3 hbl;generalize r wr ⟨w.heap.size, 3, U⟩ (G av nv cv) = S at *;obtain ⟨s0, s1, s2, s3⟩ := hS3.cells4;obtain ⟨t0, t1, t2, t3⟩ := hS31.cells4;obtain ⟨y0, y1, y2, y3⟩ := hS31.free4;have hl0 := hS3.lt;have hl1 := hS31.lt;have hKK := zb0 hS31 (G la nl lc) (E J bt) (E J nx) (G av nv cv);have hKb := hKK.2.below (B := w.heap.size + 1) (by omega) (fun b hb => by omega)
   have HF : Q (zy R ((((S.setCell ⟨w.heap.size + 1, 0, U⟩ (G la nl lc)).setCell ⟨w.heap.size + 1, 1, U⟩ (E J bt)).setCell ⟨w.heap.size + 1, 2, U⟩ (E J nx)).setCell ⟨w.heap.size + 1, 3, U⟩ (G av nv cv)) (.agg #[G la nl lc, E J bt, E J nx, G av nv cv]) (zk ⟨L, bt, nx, O⟩).1 ∧ zm ((((S.setCell ⟨w.heap.size + 1, 0, U⟩ (G la nl lc)).setCell ⟨w.heap.size + 1, 1, U⟩ (E J bt)).setCell ⟨w.heap.size + 1, 2, U⟩ (E J nx)).setCell ⟨w.heap.size + 1, 3, U⟩ (G av nv cv)) w.heap.size u5 (zk ⟨L, bt, nx, O⟩).2 ∧ Z w.heap.size w ((((S.setCell ⟨w.heap.size + 1, 0, U⟩ (G la nl lc)).setCell ⟨w.heap.size + 1, 1, U⟩ (E J bt)).setCell ⟨w.heap.size + 1, 2, U⟩ (E J nx)).setCell ⟨w.heap.size + 1, 3, U⟩ (G av nv cv))) := by
    have hk1 : zf R' S _ := hKK.2.mono (fun b _ hb => by subst hb; exact HR.out.2.2.1);have hq := hFw.keep hk1;have hVs := HV.out.2.2.2;have hOk := hOs.at zaq;have hout : Out R' av (X.filter (fun x => x.2.2.1)).length := hOs.outR (fun b hb => by have := HR.out.2.2.2 b hb; omega) _;refine ⟨⟨la, nl, lc, Y, av, nv, cv, X.filter (fun x => x.2.2.1), rfl, ?_⟩, ?_, ?_⟩
    ·have hm : (X.filter (fun x => x.2.2.1)).map zw = O.filter (fun o => o.2.2.1) := by
      rw [← HG.out.1.osays, List.filter_map];rfl
     exact (zbh.wide ⟨hq.ln, hq.log, hq.lout, hq.says, hq.parts, hOk.2.1, hOk.1.keepR hout hk1, hout, hm, fun x hx => hq.oparts x (List.mem_filter.1 hx).1⟩ (fun b hb => Or.inl (HR.out.1 b hb)))
    ·obtain ⟨jz, z1, z2, z3⟩ := hMs
     refine ⟨jz, ?_, z2, fun x hx => ((z3 x hx).mono (by omega)).calm ?_⟩
     ·exact ((((z1.mono (by omega)).setOther (a := ⟨w.heap.size + 1, 0, U⟩) hS31 (by decide) _).setOther (a := ⟨w.heap.size + 1, 1, U⟩) (hS31.set 0 _) (by decide) _).setOther (a := ⟨w.heap.size + 1, 2, U⟩) ((hS31.set 0 _).set 1 _) (by decide) _).setOther (a := ⟨w.heap.size + 1, 3, U⟩) (((hS31.set 0 _).set 1 _).set 2 _) (by decide) _
     ·exact (((zg.setCell (a := ⟨w.heap.size + 1, 0, U⟩) hS31 (by decide) _).trans (zg.setCell (a := ⟨w.heap.size + 1, 1, U⟩) (hS31.set 0 _) (by decide) _)).trans (zg.setCell (a := ⟨w.heap.size + 1, 2, U⟩) ((hS31.set 0 _).set 1 _) (by decide) _)).trans (zg.setCell (a := ⟨w.heap.size + 1, 3, U⟩) (((hS31.set 0 _).set 1 _).set 2 _) (by decide) _)
    ·exact hbS.trans (hKb.mono (by omega))
   obtain ⟨e0, e1, e2, e3⟩ := hKK.1.cells4;clear hS3 hS31 hFw hMs hOs hKK hKb hbS;go_wp2_with fail
   clear s0 s1 s2 s3 t0 t1 t2 t3 y0 y1 y2 y3 hl0 hl1;generalize ((((S.setCell ⟨w.heap.size + 1, 0, U⟩ (G la nl lc)).setCell ⟨w.heap.size + 1, 1, U⟩ (E J bt)).setCell ⟨w.heap.size + 1, 2, U⟩ (E J nx)).setCell ⟨w.heap.size + 1, 3, U⟩ (G av nv cv)) = jz at *;refine bodyPost_ret (v := .tuple #[.agg #[G la nl lc, E J bt, E J nx, G av nv cv], u5]) ?_ rfl ⟨_, _, rfl, HF.out.1, HF.out.2.1, HF.out.2.2⟩;simp [results, Tryz.results16, go_sem, e0, e1, e2, e3]
theorem ziy {R R' : Nat → Prop} {w S : World} {N : Nat} {c0 c1 c2 c3 : Value} {la : Option Addr} {nl lc : Nat} {Y : List XL} {oa : Option Addr} {no oc : Nat} {X : List XO} {L : List R3} {O : List O4} {bt nx : Int} (hz : Blk S N #[c0, c1, c2, c3] 29) (hF : zbh R' S la nl Y oa no X L O) (hb : Z w.heap.size w S) (hR : ∀ b, R b → R' b) (hN : R' N) (hw : w.heap.size ≤ N) :
  zy R ((((S.setCell ⟨N, 0, U⟩ (G la nl lc)).setCell ⟨N, 1, U⟩ (E J bt)).setCell ⟨N, 2, U⟩ (E J nx)).setCell ⟨N, 3, U⟩ (G oa no oc)) (.agg #[G la nl lc, E J bt, E J nx, G oa no oc]) ⟨L, bt, nx, O⟩ ∧
  Z w.heap.size w ((((S.setCell ⟨N, 0, U⟩ (G la nl lc)).setCell ⟨N, 1, U⟩ (E J bt)).setCell ⟨N, 2, U⟩ (E J nx)).setCell ⟨N, 3, U⟩ (G oa no oc)) ∧
  Blk ((((S.setCell ⟨N, 0, U⟩ (G la nl lc)).setCell ⟨N, 1, U⟩ (E J bt)).setCell ⟨N, 2, U⟩ (E J nx)).setCell ⟨N, 3, U⟩ (G oa no oc)) N #[G la nl lc, E J bt, E J nx, G oa no oc] 29 ∧
  zf (fun b => b = N) S ((((S.setCell ⟨N, 0, U⟩ (G la nl lc)).setCell ⟨N, 1, U⟩ (E J bt)).setCell ⟨N, 2, U⟩ (E J nx)).setCell ⟨N, 3, U⟩ (G oa no oc)) := by
 obtain ⟨h1, h2⟩ := zb0 hz (G la nl lc) (E J bt) (E J nx) (G oa no oc);exact ⟨⟨la, nl, lc, Y, oa, no, oc, X, rfl, (hF.keep (h2.mono (fun b _ hb => by subst hb; exact hN))).wide (fun b hb => Or.inl (hR b hb))⟩, hb.trans (h2.below hb.size (fun b hb => by omega)), h1, h2⟩
theorem zm.set4 {S : World} {N base : Nat} {c0 c1 c2 c3 : Value} {v : Value} {ms : List Q4} (h : zm S base v ms) (hz : Blk S N #[c0, c1, c2, c3] 29) (v0 v1 v2 v3 : Value) : zm ((((S.setCell ⟨N, 0, U⟩ v0).setCell ⟨N, 1, U⟩ v1).setCell ⟨N, 2, U⟩ v2).setCell ⟨N, 3, U⟩ v3) base v ms := by
 obtain ⟨jz, z1, z2, z3⟩ := h;refine ⟨jz, ?_, z2, fun x hx => (z3 x hx).calm ?_⟩
 ·exact (((z1.setOther (a := ⟨N, 0, U⟩) hz (by decide) _).setOther (a := ⟨N, 1, U⟩) (hz.set 0 _) (by decide) _).setOther (a := ⟨N, 2, U⟩) ((hz.set 0 _).set 1 _) (by decide) _).setOther (a := ⟨N, 3, U⟩) (((hz.set 0 _).set 1 _).set 2 _) (by decide) _
 ·exact (((zg.setCell (a := ⟨N, 0, U⟩) hz (by decide) _).trans (zg.setCell (a := ⟨N, 1, U⟩) (hz.set 0 _) (by decide) _)).trans (zg.setCell (a := ⟨N, 2, U⟩) ((hz.set 0 _).set 1 _) (by decide) _)).trans (zg.setCell (a := ⟨N, 3, U⟩) (((hz.set 0 _).set 1 _).set 2 _) (by decide) _)
theorem zm.slice {w : World} {base : Nat} {v : Value} {ms : List Q4} (h : zm w base v ms) : ∃ a n c, v = G a n c := by
 obtain ⟨X, h1, -⟩ := h;exact h1.slice zbu
def zdx (base : Nat) (w : World) (a : Option Addr) (l : List Int) : Prop :=
 l = [] ∨ ∃ b o cs, a = some ⟨b, o, U⟩ ∧ base ≤ b ∧ Blk w b cs 3 ∧ ∀ i (h : i < l.length), cs[o + i]? = some (E J l[i])
theorem zdx.calm {base : Nat} {w w' : World} {a : Option Addr} {l : List Int} (h : zdx base w a l) (hc : zg 3 w w') : zdx base w' a l := by
 rcases h with h | ⟨b, o, cs, ha, hB, hb, hx⟩
 ·exact Or.inl h
 ·exact Or.inr ⟨b, o, cs, ha, hB, hc _ _ hb, hx⟩
theorem zdx.intsR {base : Nat} {w : World} {a : Option Addr} {l : List Int} (h : zdx base w a l) {R : Nat → Prop} (hR : ∀ b, R b → b < base) : zcx R w a l := by
 rcases h with rfl | ⟨b, o, cs, rfl, hB, hb, hx⟩
 ·exact zcx.nil _ _ _
 ·refine ⟨Or.inr ⟨b, o, rfl, hb.lt, fun i hi j u hu => ?_⟩, Or.inr (fun ad had hr => ?_)⟩
  ·have hj : j = 0 := by
    rcases Nat.eq_zero_or_pos j with h0 | h0
    ·exact h0
    ·rw [List.getElem?_eq_none (by rw [zaf]; omega)] at hu; cases hu
   subst hj;rw [Nat.mul_one, Nat.add_zero, hb.cell, hx i hi]
   simpa [zu] using hu
  ·cases had
   have h' : b < base := hR _ hr;omega
theorem za.intsT {w : World} {base : Nat} {a : Option Addr} {n c : Nat} {l : List Int} (h : za 3 1 zu w base (G a n c) l) : zdx base w a l := by
 rcases h.2 with ⟨hv, h0⟩ | ⟨g, cap, cur, hv, hg, hh, hcap, hmx, hsz, htake⟩
 ·exact Or.inl (List.eq_nil_of_length_eq_zero h0)
 ·cases hv
  refine Or.inr ⟨g, 0, cur, rfl, hg, hh, fun i hi => ?_⟩;have hj := zg4 zaf l i hi 0 (by decide);rw [Nat.mul_one, Nat.add_zero] at hj;rw [← htake, List.getElem?_take_of_lt (by omega)] at hj;rw [Nat.zero_add, ← Array.getElem?_toList, hj];rfl
def OldX (R : Nat → Prop) (w0 : World) (base : Nat) (w : World) (z : XO) : Prop := zz R w0 z.2.1.1.1 z.2.1.2 ∧ (zcx R w0 z.2.2.2.1.1 z.2.2.2.2 ∨ zdx base w z.2.2.2.1.1 z.2.2.2.2)
theorem OldX.calm {R : Nat → Prop} {w0 w w' : World} {base : Nat} {z : XO} (h : OldX R w0 base w z) (hc : zg 3 w w') : OldX R w0 base w' z := ⟨h.1, h.2.imp id (fun h => h.calm hc)⟩
theorem OldX.op {R : Nat → Prop} {w0 w : World} {base : Nat} {z : XO} (h : OldX R w0 base w z) (hb : Z w0.heap.size w0 w) (hR : ∀ b, R b → b < base) : OpR R w z := ⟨h.1.below hb, h.2.elim (fun h => h.below hb) (fun h => h.intsR hR)⟩
theorem za.new1 {α : Type} {e : TypeId} {size : Nat} {enc : α → List Value} (he : ∀ x, (enc x).length = size) (w : World) {base : Nat} (hb : base ≤ w.heap.size) (x : α) {vs : Array Value} (hv : vs.toList = enc x) : za e size enc (w.alloc (T vs e)) base (G (some ⟨w.heap.size, 0, U⟩) 1 1) [x] := by
 have hl : vs.toList.length = size := by rw [hv, he]
 refine ⟨by simp [zx, he], Or.inr ⟨w.heap.size, 1, vs, rfl, hb, heap_alloc_new w _, kaa _, by unfold maxLen; omega, by simpa using hl, ?_⟩⟩;rw [hv, List.take_of_length_le (by rw [he]; simp)];simp [zx]
theorem zm.new1 (w : World) {base : Nat} (hb : base ≤ w.heap.size) (k d h : Int) : zm (w.alloc (T #[E J k, E J d, E J h, G U 0 0] 25)) base (G (some ⟨w.heap.size, 0, U⟩) 1 1) [(k, d, h, [])] :=
 ⟨[(k, d, h, (none, 0), [])], za.new1 zbu w hb _ rfl, rfl, fun x hx => by rw [kac.1 hx]; exact Or.inl rfl⟩
structure za6 (R : Nat → Prop) (w0 : World) (h0 h1 h2 h3 m0 m1 m2 m3 : Value) (bt nx : Int) (w : World) (la : Option Addr) (nl lc : Nat) (Y : List XL) (va : Option Addr) (vn vc : Nat) (jz : List XO) (sv : Value) (L : List R3) (O : List O4) (ms : List Q4) : Prop where
 hb : Blk w w0.heap.size #[h0, h1, h2, h3] 29
 mb : Blk w (w0.heap.size + 1) #[m0, m1, m2, m3] 25
 rb : Blk w (w0.heap.size + 2) #[G U 0 0, E J 0, E J 0, G U 0 0] 29
 ob : Blk w (w0.heap.size + 3) #[G la nl lc, E J bt, E J nx, G va vn vc] 29
 ln : nl = Y.length
 log : (zi 3 zah w0 la Y ∧ Out R la Y.length) ∨ za 40 3 zah w (w0.heap.size + 4) (G la nl lc) Y
 says : Y.map ze = L
 lp : ∀ y ∈ Y, zz R w0 y.2.2.1.1 y.2.2.2
 own : za 58 4 zaj w (w0.heap.size + 4) (G va vn vc) jz
 os : jz.map zw = O
 op : ∀ z ∈ jz, OldX R w0 (w0.heap.size + 4) w z
 ms : zm w (w0.heap.size + 4) sv ms
 bel : Z w0.heap.size w0 w
 sz : w0.heap.size + 4 ≤ w.heap.size
section
variable {R : Nat → Prop} {w0 w w' : World} {h0 h1 h2 h3 m0 m1 m2 m3 : Value} {bt nx : Int} {la : Option Addr} {nl lc : Nat} {Y : List XL} {va : Option Addr} {vn vc : Nat} {jz : List XO} {sv : Value} {L : List R3} {O : List O4} {ms : List Q4}
theorem za6.below (H : za6 R w0 h0 h1 h2 h3 m0 m1 m2 m3 bt nx w la nl lc Y va vn vc jz sv L O ms) (hb : Z w.heap.size w w') : za6 R w0 h0 h1 h2 h3 m0 m1 m2 m3 bt nx w' la nl lc Y va vn vc jz sv L O ms :=
 ⟨H.hb.below hb H.hb.lt, H.mb.below hb H.mb.lt, H.rb.below hb H.rb.lt, H.ob.below hb H.ob.lt, H.ln, H.log.imp id (fun h => h.below hb (kaa _)), H.says, H.lp, H.own.below hb (kaa _), H.os, fun z hz => (H.op z hz).calm (zg.below hb (kaa _)), H.ms.below hb, H.bel.trans (hb.mono H.bel.size), Nat.le_trans H.sz hb.size⟩
theorem za6.say (H : za6 R w0 h0 h1 h2 h3 m0 m1 m2 m3 bt nx w la nl lc Y va vn vc jz sv L O ms) {sv' : Value} {ms' : List Q4} (hm : zm w (w0.heap.size + 4) sv' ms') : za6 R w0 h0 h1 h2 h3 m0 m1 m2 m3 bt nx w la nl lc Y va vn vc jz sv' L O ms' :=
 ⟨H.hb, H.mb, H.rb, H.ob, H.ln, H.log, H.says, H.lp, H.own, H.os, H.op, hm, H.bel, H.sz⟩
theorem za6.push (H : za6 R w0 h0 h1 h2 h3 m0 m1 m2 m3 bt nx w la nl lc Y va vn vc jz sv L O ms) {w4 : World} (hg : w.grownBy w4 (Value.ownBlock (G va vn vc))) {a4 : Option Addr} {n4 c4 : Nat} {z : XO} (h4 : za 58 4 zaj w4 (w0.heap.size + 4) (G a4 n4 c4) (jz ++ [z])) (hz : OldX R w0 (w0.heap.size + 4) w z) :
  za6 R w0 h0 h1 h2 h3 m0 m1 m2 m3 bt nx (r w4 ⟨w0.heap.size + 3, 3, U⟩ (G a4 n4 c4)) la nl lc Y a4 n4 c4 (jz ++ [z]) sv L (O ++ [zw z]) ms := by
 have hne : ∀ b, b < w0.heap.size + 4 → Value.ownBlock (G va vn vc) ≠ some b := fun b hb e => by have := H.own.base _ e; omega
 have o4 := H.ob.keptNe hg (hne _ (by omega));have hCi : zg 3 w (r w4 ⟨w0.heap.size + 3, 3, U⟩ (G a4 n4 c4)) := (zg.grown hg (H.own.grownT (by decide))).trans (zg.setCell (a := ⟨w0.heap.size + 3, 3, U⟩) o4 (by decide) _);refine ⟨(H.hb.keptNe hg (hne _ (by omega))).setOther (a := ⟨w0.heap.size + 3, 3, U⟩) (by simp) _, (H.mb.keptNe hg (hne _ (by omega))).setOther (a := ⟨w0.heap.size + 3, 3, U⟩) (by simp) _, (H.rb.keptNe hg (hne _ (by omega))).setOther (a := ⟨w0.heap.size + 3, 3, U⟩) (by simp) _, o4.set 3 _, H.ln, H.log.imp id (fun h => (h.keptT hg (H.own.grownT (by decide))).setOther (a := ⟨w0.heap.size + 3, 3, U⟩) o4 (by decide) _), H.says, H.lp, h4.setOther (a := ⟨w0.heap.size + 3, 3, U⟩) o4 (by decide) _, by rw [List.map_append, H.os]; rfl, fun x hx => ?_, ?_, (H.bel.grown hg H.bel.size (fun k hk => by have := H.own.base _ hk; omega)).setCell (by simp) _, ?_⟩
 ·rcases kab.1 hx with hx | hx
  ·exact (H.op x hx).calm hCi
  ·rw [kac.1 hx]; exact hz.calm hCi
 ·obtain ⟨zX, z1, z2, z3⟩ := H.ms.keptT hg (H.own.kinds (by decide) (by decide))
  exact ⟨zX, z1.setOther (a := ⟨w0.heap.size + 3, 3, U⟩) o4 (by decide) _, z2, fun x hx => (z3 x hx).calm (zg.setCell (a := ⟨w0.heap.size + 3, 3, U⟩) o4 (by decide) _)⟩
 ·have h1 := hg.size
  have := H.sz;simp [World.setCell]
  omega
theorem za6.box (H : za6 R w0 h0 h1 h2 h3 m0 m1 m2 m3 bt nx w la nl lc Y va vn vc jz sv L O ms) {ob j : Nat} {cs : Array Value} (hb : Blk w ob cs 58) (hne : Value.ownBlock (G va vn vc) ≠ some ob) (ho : w0.heap.size + 4 ≤ ob) (v : Value) :
  za6 R w0 h0 h1 h2 h3 m0 m1 m2 m3 bt nx (r w ⟨ob, j, U⟩ v) la nl lc Y va vn vc jz sv L O ms := by
 refine ⟨H.hb.setOther (a := ⟨ob, j, U⟩) (by simp; omega) _, H.mb.setOther (a := ⟨ob, j, U⟩) (by simp; omega) _, H.rb.setOther (a := ⟨ob, j, U⟩) (by simp; omega) _, H.ob.setOther (a := ⟨ob, j, U⟩) (by simp; omega) _, H.ln, H.log.imp id (fun h => h.setOther (a := ⟨ob, j, U⟩) hb (by decide) _), H.says, H.lp, H.own.setNew (a := ⟨ob, j, U⟩) hne _, H.os, fun x hx => (H.op x hx).calm (zg.setCell (a := ⟨ob, j, U⟩) hb (by decide) _), ?_, H.bel.setCell (by simp; omega) _, ?_⟩
 ·obtain ⟨zX, z1, z2, z3⟩ := H.ms
  exact ⟨zX, z1.setOther (a := ⟨ob, j, U⟩) hb (by decide) _, z2, fun x hx => (z3 x hx).calm (zg.setCell (a := ⟨ob, j, U⟩) hb (by decide) _)⟩
 ·have := H.sz
  simp [World.setCell]
  omega
theorem za6.note (H : za6 R w0 h0 h1 h2 h3 m0 m1 m2 m3 bt nx w la nl lc Y va vn vc jz sv L O ms) {a4 : Option Addr} {n4 c4 : Nat} {Y4 : List XL} {L4 : List R3} (h4 : za 40 3 zah w (w0.heap.size + 4) (G a4 n4 c4) Y4) (hs : Y4.map ze = L4) (hp : ∀ y ∈ Y4, zz R w0 y.2.2.1.1 y.2.2.2) :
  za6 R w0 h0 h1 h2 h3 m0 m1 m2 m3 bt nx (r w ⟨w0.heap.size + 3, 0, U⟩ (G a4 n4 c4)) a4 n4 c4 Y4 va vn vc jz sv L4 O ms := by
 have o4 := H.ob;refine ⟨H.hb.setOther (a := ⟨w0.heap.size + 3, 0, U⟩) (by simp) _, H.mb.setOther (a := ⟨w0.heap.size + 3, 0, U⟩) (by simp) _, H.rb.setOther (a := ⟨w0.heap.size + 3, 0, U⟩) (by simp) _, o4.set 0 _, (h4.at za7).2.1, Or.inr (h4.setOther (a := ⟨w0.heap.size + 3, 0, U⟩) o4 (by decide) _), hs, hp, H.own.setOther (a := ⟨w0.heap.size + 3, 0, U⟩) o4 (by decide) _, H.os, fun x hx => (H.op x hx).calm (zg.setCell (a := ⟨w0.heap.size + 3, 0, U⟩) o4 (by decide) _), ?_, H.bel.setCell (by simp) _, ?_⟩
 ·obtain ⟨zX, z1, z2, z3⟩ := H.ms
  exact ⟨zX, z1.setOther (a := ⟨w0.heap.size + 3, 0, U⟩) o4 (by decide) _, z2, fun x hx => (z3 x hx).calm (zg.setCell (a := ⟨w0.heap.size + 3, 0, U⟩) o4 (by decide) _)⟩
 ·have := H.sz
  simp [World.setCell]
  omega
theorem za6.done (H : za6 R w0 h0 h1 h2 h3 m0 m1 m2 m3 bt nx w la nl lc Y va vn vc jz sv L O ms) (hR : ∀ b, R b → b < w0.heap.size) :
  zy R (r (r (r (r w ⟨w0.heap.size + 2, 0, U⟩ (G la nl lc)) ⟨w0.heap.size + 2, 1, U⟩ (E J bt)) ⟨w0.heap.size + 2, 2, U⟩ (E J nx)) ⟨w0.heap.size + 2, 3, U⟩ (G va vn vc)) (.agg #[G la nl lc, E J bt, E J nx, G va vn vc]) ⟨L, bt, nx, O⟩ ∧
  zm (r (r (r (r w ⟨w0.heap.size + 2, 0, U⟩ (G la nl lc)) ⟨w0.heap.size + 2, 1, U⟩ (E J bt)) ⟨w0.heap.size + 2, 2, U⟩ (E J nx)) ⟨w0.heap.size + 2, 3, U⟩ (G va vn vc)) w0.heap.size sv ms ∧
  Z w0.heap.size w0 (r (r (r (r w ⟨w0.heap.size + 2, 0, U⟩ (G la nl lc)) ⟨w0.heap.size + 2, 1, U⟩ (E J bt)) ⟨w0.heap.size + 2, 2, U⟩ (E J nx)) ⟨w0.heap.size + 2, 3, U⟩ (G va vn vc)) ∧
  Blk (r (r (r (r w ⟨w0.heap.size + 2, 0, U⟩ (G la nl lc)) ⟨w0.heap.size + 2, 1, U⟩ (E J bt)) ⟨w0.heap.size + 2, 2, U⟩ (E J nx)) ⟨w0.heap.size + 2, 3, U⟩ (G va vn vc)) (w0.heap.size + 2) #[G la nl lc, E J bt, E J nx, G va vn vc] 29 := by
 have hR4 : ∀ b, R b → b < w0.heap.size + 4 := fun b hb => by have := hR b hb; omega
 have hat := H.own.at zaq
 have hF : zbh R w la nl Y va vn jz L O := by
  refine ⟨H.ln, ?_, ?_, H.says, fun y hy => (H.lp y hy).below H.bel, hat.2.1, hat.1, H.own.outR hR4 _, H.os, fun z hz => (H.op z hz).op H.bel hR4⟩
  ·rcases H.log with h | h
   ·exact h.1.below H.bel
   ·exact (h.at za7).1
  ·rcases H.log with h | h
   ·exact h.2
   ·exact h.outR hR4 _
 have hRR : zbh (fun b => R b ∨ b = w0.heap.size + 2) w la nl Y va vn jz L O := by
  refine ⟨H.ln, hF.log, ?_, H.says, fun y hy => (((H.lp y hy).wide (R' := fun b => R b ∨ b = w0.heap.size + 2) (fun b hb => hb.imp id (fun h => by omega)))).below H.bel, hat.2.1, hat.1, H.own.outR (fun b hb => hb.elim (hR4 b) (fun h => by omega)) _, H.os, fun z hz => ?_⟩
  ·rcases H.log with h | h
   ·exact h.1.out h.2 (fun b hb => hb.imp id (fun h => by omega))
   ·exact h.outR (fun b hb => hb.elim (hR4 b) (fun h => by omega)) _
  ·have hz0 := H.op z hz
   refine ⟨(hz0.1.wide (R' := fun b => R b ∨ b = w0.heap.size + 2) (fun b hb => hb.imp id (fun h => by omega))).below H.bel, hz0.2.elim (fun h => (h.wide (R' := fun b => R b ∨ b = w0.heap.size + 2) (fun b hb => hb.imp id (fun h => by omega))).below H.bel) (fun h => h.intsR (fun b hb => hb.elim (hR4 b) (fun h => by omega)))⟩
 obtain ⟨p1, p2, p3, p4⟩ := ziy (R := R) (lc := lc) (oc := vc) (bt := bt) (nx := nx) H.rb hRR H.bel (fun b hb => Or.inl hb) (Or.inr rfl) (by omega);exact ⟨p1, (H.ms.set4 H.rb _ _ _ _).mono (by omega), p2, p3⟩
end
structure zbg (w : World) (base : Nat) (la : Option Addr) (nl lc : Nat) (Y : List XL) (oa : Option Addr) (no oc : Nat) (X : List XO) (L : List R3) (O : List O4) : Prop where
 log : zc7 w base (G la nl lc) Y
 says : Y.map ze = L
 opn : za 58 4 zaj w base (G oa no oc) X
 osays : X.map zw = O
 op : ∀ x ∈ X, zai base w x.2.1.1.1 x.2.1.2 ∧ zdx base w x.2.2.2.1.1 x.2.2.2.2
theorem zdx.mono {base base' : Nat} {w : World} {a : Option Addr} {l : List Int} (h : zdx base w a l) (hb : base' ≤ base) : zdx base' w a l := by
 rcases h with h | ⟨b, o, cs, ha, hB, hb', hx⟩
 ·exact Or.inl h
 ·exact Or.inr ⟨b, o, cs, ha, Nat.le_trans hb hB, hb', hx⟩
section
variable {w w' : World} {base : Nat} {la : Option Addr} {nl lc : Nat} {Y : List XL} {oa : Option Addr} {no oc : Nat} {X : List XO} {L : List R3} {O : List O4}
theorem zbg.below (H : zbg w base la nl lc Y oa no oc X L O) (hb : Z w.heap.size w w') : zbg w' base la nl lc Y oa no oc X L O :=
 ⟨⟨H.log.1.below hb (kaa _), fun y hy => (H.log.2 y hy).calm (zg.below hb (kaa _))⟩, H.says, H.opn.below hb (kaa _), H.osays, fun x hx => ⟨(H.op x hx).1.calm (zg.below hb (kaa _)), (H.op x hx).2.calm (zg.below hb (kaa _))⟩⟩
theorem zbg.mono (H : zbg w base la nl lc Y oa no oc X L O) {base' : Nat} (hb : base' ≤ base) : zbg w base' la nl lc Y oa no oc X L O :=
 ⟨⟨H.log.1.mono hb, fun y hy => (H.log.2 y hy).mono hb⟩, H.says, H.opn.mono hb, H.osays, fun x hx => ⟨(H.op x hx).1.mono hb, (H.op x hx).2.mono hb⟩⟩
theorem zbg.set (H : zbg w base la nl lc Y oa no oc X L O) {N i : Nat} {cs : Array Value} {t : TypeId} (hb : Blk w N cs t) (h1 : t ≠ 40) (h2 : t ≠ 58) (h3 : t ≠ 90) (h4 : t ≠ 3) (u : Value) : zbg (r w ⟨N, i, U⟩ u) base la nl lc Y oa no oc X L O :=
 ⟨⟨H.log.1.setOther (a := ⟨N, i, U⟩) hb h1 _, fun y hy => (H.log.2 y hy).calm (zg.setCell (a := ⟨N, i, U⟩) hb h3 _)⟩, H.says, H.opn.setOther (a := ⟨N, i, U⟩) hb h2 _, H.osays, fun x hx => ⟨(H.op x hx).1.calm (zg.setCell (a := ⟨N, i, U⟩) hb h3 _), (H.op x hx).2.calm (zg.setCell (a := ⟨N, i, U⟩) hb h4 _)⟩⟩
theorem zbg.box (H : zbg w base la nl lc Y oa no oc X L O) {N i : Nat} {cs : Array Value} (hb : Blk w N cs 58) (hne : Value.ownBlock (G oa no oc) ≠ some N) (u : Value) : zbg (r w ⟨N, i, U⟩ u) base la nl lc Y oa no oc X L O :=
 ⟨⟨H.log.1.setOther (a := ⟨N, i, U⟩) hb (by decide) _, fun y hy => (H.log.2 y hy).calm (zg.setCell (a := ⟨N, i, U⟩) hb (by decide) _)⟩, H.says, H.opn.setNew (a := ⟨N, i, U⟩) hne _, H.osays, fun x hx => ⟨(H.op x hx).1.calm (zg.setCell (a := ⟨N, i, U⟩) hb (by decide) _), (H.op x hx).2.calm (zg.setCell (a := ⟨N, i, U⟩) hb (by decide) _)⟩⟩
theorem zbg.push (H : zbg w base la nl lc Y oa no oc X L O) (hg : w.grownBy w' (Value.ownBlock (G oa no oc))) {a4 : Option Addr} {n4 c4 : Nat} {z : XO} (h4 : za 58 4 zaj w' base (G a4 n4 c4) (X ++ [z])) (hp : zai base w z.2.1.1.1 z.2.1.2) (hi : zdx base w z.2.2.2.1.1 z.2.2.2.2) :
  zbg w' base la nl lc Y a4 n4 c4 (X ++ [z]) L (O ++ [zw z]) := by
 have hk := H.opn.kinds (t := 90) (t' := 40) (by decide) (by decide);have hcP : zg 90 w w' := zg.grown hg (H.opn.grownT (by decide));have hcI : zg 3 w w' := zg.grown hg (H.opn.grownT (by decide));refine ⟨⟨H.log.1.keptT hg (H.opn.grownT (by decide)), fun y hy => (H.log.2 y hy).calm hcP⟩, H.says, h4, by rw [List.map_append, H.osays]; rfl, fun x hx => ?_⟩;rcases kab.1 hx with hx | hx
 ·exact ⟨(H.op x hx).1.calm hcP, (H.op x hx).2.calm hcI⟩
 ·rw [kac.1 hx]; exact ⟨hp.calm hcP, hi.calm hcI⟩
theorem zbg.f (H : zbg w base la nl lc Y oa no oc X L O) {R : Nat → Prop} (hR : ∀ b, R b → b < base) : zbh R w la nl Y oa no X L O := by
 have h1 := H.log.1.at za7;have h2 := H.opn.at zaq;exact ⟨h1.2.1, h1.1, H.log.1.outR hR _, H.says, fun y hy => (H.log.2 y hy).outR hR, h2.2.1, h2.1, H.opn.outR hR _, H.osays, fun x hx => ⟨(H.op x hx).1.outR hR, (H.op x hx).2.intsR hR⟩⟩
theorem zbg.v (H : zbg w base la nl lc Y oa no oc X L O) {R : Nat → Prop} (hR : ∀ b, R b → b < base) {g : Gh} (hL : g.log = L) (hO : g.opn = O) : zy R w (.agg #[G la nl lc, E J g.boot, E J g.next, G oa no oc]) g := by
 subst hL hO;exact ⟨la, nl, lc, Y, oa, no, oc, X, rfl, H.f hR⟩
end
def hvO (x : XO) : Value := G x.2.2.2.1.1 x.2.2.2.2.length x.2.2.2.1.2
structure zby (w : World) (base : Nat) (X : List XO) : Prop where
 own : ∀ x ∈ X, za 3 1 zu w base (hvO x) x.2.2.2.2
 ne : X.Pairwise fun x y => ∀ b, (hvO x).ownBlock = some b → (hvO y).ownBlock ≠ some b
theorem zby.nil (w : World) (base : Nat) : zby w base [] := ⟨(fun x hx => by cases hx), List.Pairwise.nil⟩
theorem zby.below {w w' : World} {base : Nat} {X : List XO} (H : zby w base X) (hb : Z w.heap.size w w') : zby w' base X := ⟨fun x hx => (H.own x hx).below hb (kaa _), H.ne⟩
theorem zby.mono {w : World} {base base' : Nat} {X : List XO} (H : zby w base X) (hb : base' ≤ base) : zby w base' X := ⟨fun x hx => (H.own x hx).mono hb, H.ne⟩
theorem zby.set {w : World} {base : Nat} {X : List XO} (H : zby w base X) {N i : Nat} {cs : Array Value} {t : TypeId} (hb : Blk w N cs t) (ht : t ≠ 3) (u : Value) : zby (r w ⟨N, i, U⟩ u) base X := ⟨fun x hx => (H.own x hx).setOther (a := ⟨N, i, U⟩) hb ht _, H.ne⟩
theorem zby.grown {w w' : World} {base : Nat} {X : List XO} (H : zby w base X) {row : Option Nat} (hg : w.grownBy w' row) (hr : ∀ k, row = some k → ∃ cs t, Blk w k cs t ∧ t ≠ 3) : zby w' base X := ⟨fun x hx => (H.own x hx).keptT hg hr, H.ne⟩
theorem zby.lt {w : World} {base : Nat} {X : List XO} (H : zby w base X) : ∀ x ∈ X, ∀ b, (hvO x).ownBlock = some b → b < w.heap.size := fun x hx b hb => by
 obtain ⟨_, cs, hB⟩ := (H.own x hx).blk hb;exact hB.lt
theorem zby.push {w : World} {base B : Nat} {X : List XO} (H : zby w base X) {z : XO} (hz : za 3 1 zu w B (hvO z) z.2.2.2.2) (hB : base ≤ B) (hlt : ∀ x ∈ X, ∀ b, (hvO x).ownBlock = some b → b < B) : zby w base (X ++ [z]) := by
 refine ⟨fun x hx => ?_, List.pairwise_append.2 ⟨H.ne, List.pairwise_singleton _ _, fun x hx y hy b hb e => ?_⟩⟩
 ·rcases kab.1 hx with hx | hx
  ·exact H.own x hx
  ·rw [kac.1 hx]; exact hz.mono hB
 ·rw [kac.1 hy] at e
  have h1 := hlt x hx b hb;have h2 := hz.base _ e;omega
abbrev M4 := Int × Int × Int × List P3
def Byt (b : List Nat) : Prop := ∀ c ∈ b, c < 256
def zgb (s c : Nat) : Nat := (s * 263 + c + 1) % 65521
def zch (b : List Nat) : Nat := b.foldl zgb 5
theorem znk (s c : Nat) : zgb s c < 65521 := Nat.mod_lt _ (by decide)
theorem zkc : ∀ (b : List Nat) (s : Nat), s < 65521 → b.foldl zgb s < 65521
 | [], _, h => h
 | _ :: t, _, _ => zkc t _ (znk _ _)
theorem zib (b : List Nat) : zch b < 65521 := zkc b 5 (by decide)
theorem sumB_snoc (b : List Nat) (c : Nat) : zch (b ++ [c]) = zgb (zch b) c := by simp [zch]
def zd6 (n : Int) : Nat := if n < 0 then (-1 - n).toNat * 2 + 1 else n.toNat * 2
def ze6 (u : Nat) : Int := if u % 2 = 1 then -1 - ((u / 2 : Nat) : Int) else ((u / 2 : Nat) : Int)
theorem zor (n : Int) : ze6 (zd6 n) = n := by
 unfold ze6 zd6; split <;> split <;> omega
theorem fold_lt {n : Int} (h1 : -1099511627776 < n) (h2 : n < 1099511627776) : zd6 n < 2199023255552 := by
 unfold zd6; split <;> omega
def zc1 : Nat → Nat → List Nat
 | 0, u => [u]
 | f + 1, u => if u < 128 then [u] else (u % 128 + 128) :: zc1 f (u / 128)
def zam (n : Int) : List Nat := zc1 9 (zd6 n)
theorem zg8 (f : Nat) {u : Nat} (h : u < 128) : zc1 f u = [u] := by
 cases f with
 | zero => rfl
 | succ f => simp [zc1, h]
theorem zg7 (f : Nat) {u : Nat} (h : ¬ u < 128) : zc1 (f + 1) u = (u % 128 + 128) :: zc1 f (u / 128) := by simp [zc1, h]
theorem zm2 : ∀ (f u : Nat), 1 ≤ (zc1 f u).length ∧ (zc1 f u).length ≤ f + 1
 | 0, _ => by simp [zc1]
 | f + 1, u => by
  have ih := zm2 f (u / 128);by_cases h : u < 128
  ·rw [zg8 _ h]; simp
  ·rw [zg7 _ h]; simp; omega
theorem zfq (n : Int) : 1 ≤ (zam n).length ∧ (zam n).length ≤ 10 := zm2 9 _
theorem zki : ∀ (f u : Nat), u < 128 ^ f * 128 → Byt (zc1 f u)
 | 0, u, h => by intro c hc; simp [zc1] at hc; omega
 | f + 1, u, h => by
  by_cases h' : u < 128
  ·rw [zg8 _ h']; intro c hc; simp at hc; omega
  ·rw [zg7 _ h']
   intro c hc;rcases List.mem_cons.1 hc with rfl | hc
   ·omega
   ·exact zki f (u / 128) (by rw [Nat.pow_succ] at h; omega) c hc
theorem zm6 {n : Int} (h1 : -9223372036854775808 ≤ n) (h2 : n ≤ 9223372036854775807) : zd6 n < 18446744073709551616 := by
 unfold zd6; split <;> omega
theorem ze8 {n : Int} (h1 : -9223372036854775808 ≤ n) (h2 : n ≤ 9223372036854775807) : Byt (zam n) := zki 9 _ (by have := zm6 h1 h2; omega)
def zeb : Nat → Nat → List Nat → Int × Nat × Int
 | _, _, [] => (0, 0, 8)
 | k, u, c :: t => if k = 6 then (0, 0, 3) else if 128 ≤ c then zeb (k + 1) (u + c % 128 * 128 ^ k) t
  else if c = 0 ∧ 0 < k then (0, 0, 2) else (ze6 (u + c % 128 * 128 ^ k), k + 1, 0)
def zt (b : List Nat) : Int × Nat × Int := zeb 0 0 b
theorem get_num : ∀ (f k u a : Nat) (jj : List Nat), 6 ≤ f + k → k < 6 → u < 128 ^ (6 - k) → (0 < k → 0 < u) →
  zeb k a (zc1 f u ++ jj) = (ze6 (a + u * 128 ^ k), k + (zc1 f u).length, 0)
 | 0, k, _, _, _, h, hk, _, _ => by omega
 | f + 1, k, u, a, jj, h, hk, hu, hp => by
  by_cases h' : u < 128
  ·rw [zg8 _ h']
   have h1 : ¬ k = 6 := by omega
   have h2 : ¬ 128 ≤ u := by omega
   have h3 : ¬ (u = 0 ∧ 0 < k) := by rintro ⟨x, y⟩; have := hp y; omega
   simp only [List.cons_append, List.nil_append, zeb, h1, h2, h3, if_false, Nat.mod_eq_of_lt h', List.length_cons, List.length_nil]
  ·rw [zg7 _ h']
   have h1 : ¬ k = 6 := by omega
   have h2 : 128 ≤ u % 128 + 128 := by omega
   have h3 : (u % 128 + 128) % 128 = u % 128 := by omega
   have h5 : k + 1 < 6 := by
    rcases Nat.lt_or_ge (k + 1) 6 with h | h
    ·exact h
    ·have : k = 5 := by omega
     subst this;simp at hu
     omega
   have h6 : 128 ^ (6 - k) = 128 ^ (6 - (k + 1)) * 128 := by rw [← Nat.pow_succ]; congr 1; omega
   have h7 : u / 128 < 128 ^ (6 - (k + 1)) := by rw [h6] at hu; omega
   have ih := get_num f (k + 1) (u / 128) (a + u % 128 * 128 ^ k) jj (by omega) h5 h7 (fun _ => by omega);simp only [List.cons_append, zeb, h1, h2, h3, if_false, if_true, ih, List.length_cons]
   have h8 : a + u % 128 * 128 ^ k + u / 128 * 128 ^ (k + 1) = a + u * 128 ^ k := by
    have : u = 128 * (u / 128) + u % 128 := by omega
    conv => rhs; rw [this]
    rw [Nat.pow_succ, Nat.add_mul, Nat.mul_comm 128 (u / 128), Nat.mul_assoc (u / 128), Nat.mul_comm 128 (128 ^ k)];omega
   rw [h8];congr 2
   omega
def zcy (st : List Nat × Int) : Int × List Nat × Int :=
 if st.2 = 0 then ((zt st.1).1, st.1.drop (zt st.1).2.1, (zt st.1).2.2) else (0, st)
theorem get_numB {n : Int} (h1 : -1099511627776 < n) (h2 : n < 1099511627776) (jj : List Nat) : zt (zam n ++ jj) = (n, (zam n).length, 0) := by
 have := get_num 9 0 (zd6 n) 0 jj (by omega) (by omega) (by have := fold_lt h1 h2; omega) (fun h => by omega);simp only [Nat.pow_zero, Nat.mul_one, Nat.zero_add, zor] at this
 exact this
theorem zg5 {n : Int} (h1 : -1099511627776 < n) (h2 : n < 1099511627776) (jj : List Nat) : zcy (zam n ++ jj, 0) = (n, jj, 0) := by
 have := get_numB h1 h2 jj;simp [zcy, this]
def zb5 (h : Int) : Nat → List Nat × Int → List P3 × List Nat × Int
 | 0, st => ([], st)
 | m + 1, st => if st.2 = 0 then ((h, (zcy st).1, (zcy (zcy st).2).1) :: (zb5 h m (zcy (zcy st).2).2).1, (zb5 h m (zcy (zcy st).2).2).2) else ([], st)
def zbx (l : List P3) : List Nat := l.flatMap fun p => zam p.2.1 ++ zam p.2.2
def Fine (h : Int) (l : List P3) : Prop := ∀ p ∈ l, p.1 = h ∧ (0 ≤ p.2.1 ∧ p.2.1 < 4) ∧ -1048576 ≤ p.2.2 ∧ p.2.2 ≤ 1048576
theorem zlk (h : Int) : ∀ (l : List P3) (jj : List Nat), Fine h l → zb5 h l.length (zbx l ++ jj, 0) = (l, jj, 0)
 | [], jj, _ => by simp [zb5, zbx]
 | p :: t, jj, hl => by
  obtain ⟨h1, h2, h3⟩ := hl p (List.mem_cons_self ..);have ih := zlk h t jj fun q hq => hl q (List.mem_cons_of_mem _ hq)
  have e : zbx (p :: t) ++ jj = zam p.2.1 ++ (zam p.2.2 ++ (zbx t ++ jj)) := by simp [zbx]
  simp only [List.length_cons, zb5, e, zg5 (n := p.2.1) (by omega) (by omega), zg5 (n := p.2.2) (by omega) (by omega), ih, if_true]
  rw [← h1]
def zel (s : Int × List Nat × Int) : Int := if s.2.2 = 0 ∧ (s.1 < 0 ∨ 4 < s.1) then 5 else s.2.2
def zfj (s : List Nat × Int) : Int := if s.2 = 0 ∧ 0 < s.1.length then 2 else s.2
def zfu (b : List Nat) : M4 × Int :=
 let s1 := zcy (b.drop 1, 0)
 let s2 := zcy s1.2
 let s3 := zcy s2.2
 let ps := zb5 s2.1 s3.1.toNat (s3.2.1, zel s3)
 (((b.getD 0 0 : Nat), s1.1, s2.1, ps.1), zfj ps.2)
def zdn (m : M4) : Int :=
 if m.1 < 1 ∨ 7 < m.1 then 1 else if m.2.1 < 0 ∨ 1344 ≤ m.2.1 ∨ m.2.2.1 < 0 ∨ 3 ≤ m.2.2.1 then 3
 else if m.1 = 1 then (if zax m.2.2.2 3 = 0 then (if (ofB m.2.2.2 m.2.2.1).length < m.2.2.2.length then 3 else 0) else zax m.2.2.2 3)
 else if 0 < m.2.2.2.length then 5 else 0
def zcl (m : M4) : List Nat := (m.1 % 256).toNat :: (zam m.2.1 ++ (zam m.2.2.1 ++ (zam m.2.2.2.length ++ zbx m.2.2.2)))
def tailB (b : List Nat) : List Nat := [zch b / 256, zch b % 256]
def zas (m : M4) : List Nat := zcl m ++ tailB (zcl m)
def m0 : M4 := (0, 0, 0, [])
def endB (b : List Nat) : Nat := b.getD (b.length - 2) 0 * 256 + b.getD (b.length - 1) 0
def zei (b : List Nat) : M4 × Int :=
 if b.length < 3 then (m0, 8) else if zch (b.take (b.length - 2)) = endB b then
  (let jj := zfu (b.take (b.length - 2)); let e := if jj.2 = 0 then zdn jj.1 else jj.2; if e = 0 then (jj.1, 0) else (m0, e)) else (m0, 7)
theorem zhu {m : M4} (h : zdn m = 0) : (1 ≤ m.1 ∧ m.1 ≤ 7) ∧ (0 ≤ m.2.1 ∧ m.2.1 < 1344) ∧ (0 ≤ m.2.2.1 ∧ m.2.2.1 < 3) ∧ m.2.2.2.length ≤ 4 ∧ Fine m.2.2.1 m.2.2.2 := by
 unfold zdn at h
 split at h
 ·omega
 split at h
 ·omega
 split at h
 ·split at h
  ·rename_i hw
   split at h
   ·omega
   ·rename_i hl
    obtain ⟨_, h4, hin, _⟩ := zc5 hw;refine ⟨by omega, by omega, by omega, h4, fun p hp => ?_⟩
    have hall : ∀ q ∈ m.2.2.2, decide (q.1 = m.2.2.1) = true := by
     have : (ofB m.2.2.2 m.2.2.1).length = m.2.2.2.length := by
      have := List.length_filter_le (fun p : P3 => decide (p.1 = m.2.2.1)) m.2.2.2;simp only [ofB] at hl ⊢
      omega
     exact List.length_filter_eq_length_iff.1 this
    have h1 := hall p hp;have h2 := hin p hp;simp only [inB, decide_eq_true_eq] at h1 h2
    exact ⟨h1, ⟨by omega, by omega⟩, by omega, by omega⟩
  ·omega
 ·split at h
  ·omega
  ·rename_i hn
   have : m.2.2.2 = [] := List.eq_nil_of_length_eq_zero (by omega);refine ⟨by omega, by omega, by omega, by omega, fun p hp => ?_⟩;rw [this] at hp;cases hp
theorem take_body (b t : List Nat) (h : t.length = 2) : (b ++ t).take ((b ++ t).length - 2) = b := by
 have : (b ++ t).length - 2 = b.length := by simp; omega
 rw [this]; simp
theorem endB_two (b : List Nat) (x y : Nat) : endB (b ++ [x, y]) = x * 256 + y := by
 have h1 : (b ++ [x, y]).length - 2 = b.length := by simp
 have h2 : (b ++ [x, y]).length - 1 = b.length + 1 := by simp
 simp only [endB, h1, h2]
 simp [List.getD_eq_getElem?_getD]
theorem zpb {m : M4} (h : zdn m = 0) : zfu (zcl m) = (m, 0) := by
 obtain ⟨k, d, hs, l⟩ := m;obtain ⟨h1, h2, h3, h4, h5⟩ := zhu h;simp only at h1 h2 h3 h4 h5
 have e0 : (zcl (k, d, hs, l)).drop 1 = zam d ++ (zam hs ++ (zam l.length ++ zbx l)) := rfl;have e1 : ((zcl (k, d, hs, l)).getD 0 0 : Nat) = (k % 256).toNat := rfl;have s1 := zg5 (n := d) (by omega) (by omega) (zam hs ++ (zam l.length ++ zbx l));have s2 := zg5 (n := hs) (by omega) (by omega) (zam l.length ++ zbx l);have s3 := zg5 (n := (l.length : Int)) (by omega) (by omega) (zbx l);have s4 := zlk hs l [] h5;rw [List.append_nil] at s4;have e5 : zel ((l.length : Int), zbx l, 0) = 0 := by simp only [zel]; rw [if_neg]; omega
 have e6 : (((k % 256).toNat : Nat) : Int) = k := by omega
 simp only [zfu, e0, s1, s2, s3, e5, Int.toNat_natCast, s4, e1, e6]
 simp [zfj]
theorem zjp {m : M4} (h : zdn m = 0) : zei (zas m) = (m, 0) := by
 have hl : ¬ (zas m).length < 3 := by
  have := (zfq m.2.1).1;simp [zas, tailB, zcl]; omega
 have he : endB (zas m) = zch (zcl m) := by
  simp only [zas, tailB]; rw [endB_two]; omega
 have ht : (zas m).take ((zas m).length - 2) = zcl m := take_body _ _ rfl;simp only [zei, hl, if_false, ht, he, if_true, zpb h, h]
theorem body_byt {m : M4} (h : zdn m = 0) : Byt (zcl m) := by
 obtain ⟨h1, h2, h3, h4, h5⟩ := zhu h;intro c hc;simp only [zcl, List.mem_cons, kab, zbx, List.mem_flatMap] at hc
 rcases hc with rfl | hc | hc | hc | ⟨p, hp, hc | hc⟩
 ·omega
 ·exact ze8 (by omega) (by omega) c hc
 ·exact ze8 (by omega) (by omega) c hc
 ·exact ze8 (by omega) (by omega) c hc
 ·have := h5 p hp; exact ze8 (by omega) (by omega) c hc
 ·have := h5 p hp; exact ze8 (by omega) (by omega) c hc
theorem zjg {m : M4} (h : zdn m = 0) : Byt (zas m) := by
 intro c hc;have := zib (zcl m);simp only [zas, tailB, kab, List.mem_cons, List.not_mem_nil, or_false] at hc
 rcases hc with hc | rfl | rfl
 ·exact body_byt h c hc
 ·omega
 ·omega
def zde (w : World) (a : Option Addr) (l : List Nat) : Prop :=
 l = [] ∨ ∃ b o, a = some ⟨b, o, U⟩ ∧ b < w.heap.size ∧ ∀ i (h : i < l.length), w.cell? ⟨b, o + i, U⟩ = some (E .u8 (l[i] : Nat))
theorem zde.below {w w' : World} {a : Option Addr} {l : List Nat} (h : zde w a l) (hb : Z w.heap.size w w') : zde w' a l := by
 rcases h with rfl | ⟨b, o, rfl, hlt, hc⟩
 ·exact Or.inl rfl
 ·refine Or.inr ⟨b, o, rfl, Nat.lt_of_lt_of_le hlt hb.size, fun i hi => ?_⟩
  obtain ⟨hcc, _⟩ := zc0 hb;exact (hcc _ _ hlt).trans (hc i hi)
end Go.Proofs.YtpcnlifmkhagkaaGreat
