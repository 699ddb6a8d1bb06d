import Derived.Test.YtpcnlifmkhagkaaGreatKJ14
import Derived.Test.YtpcnlifmkhagkaaGreatKRefGR
set_option maxRecDepth 20000
set_option maxHeartbeats 20000000
namespace Go.Proofs.YtpcnlifmkhagkaaGreat
open Go.RowKit
open Value renaming slice → G, int → E
open IntKind renaming i64 → J
open Option renaming none → U
open Obj renaming cells → T
open Go renaming Hid → Q, Below → Z
open World renaming setCell → r
open Nat renaming le_refl → kaa
attribute [local go_sem ↓] Go.wp_at_zero Go.wp_at_succ
theorem zb1 {w : World} {N : Nat} {zV : TypeId} {c0 c1 c2 c3 : Value} (hb : Blk w N #[c0, c1, c2, c3] zV) (v0 v1 v2 v3 : Value) :
  Blk (r (r (r (r w ⟨N, 0, U⟩ v0) ⟨N, 1, U⟩ v1) ⟨N, 2, U⟩ v2) ⟨N, 3, U⟩ v3) N #[v0, v1, v2, v3] zV ∧ zf (fun b => b = N) w (r (r (r (r w ⟨N, 0, U⟩ v0) ⟨N, 1, U⟩ v1) ⟨N, 2, U⟩ v2) ⟨N, 3, U⟩ v3) := by
 refine ⟨(fill4 hb v0 v1 v2 v3).1, ?_⟩;have k0 := (zf.refl (fun b => b = N) w).setCell (p := ⟨N, 0, U⟩) rfl v0;have k1 := k0.setCell (p := ⟨N, 1, U⟩) rfl v1;have k2 := k1.setCell (p := ⟨N, 2, U⟩) rfl v2;exact k2.setCell (p := ⟨N, 3, U⟩) rfl v3
theorem zhz (R : Nat → Prop) (w : World) (m : Nat) : ∃ R' : Nat → Prop, (∀ b, R b → R' b) ∧ (∀ b, w.heap.size ≤ b → b < w.heap.size + m → R' b) ∧ (∀ b, R' b → R b ∨ w.heap.size ≤ b) ∧ (∀ b, R' b → (∀ c, R c → c < w.heap.size) → b < w.heap.size + m) :=
 ⟨fun b => R b ∨ (w.heap.size ≤ b ∧ b < w.heap.size + m), fun _ h => Or.inl h, fun _ h1 h2 => Or.inr ⟨h1, h2⟩, fun _ h => h.elim Or.inl (fun x => Or.inr x.1), fun b h hR => h.elim (fun x => by have := hR b x; omega) (fun x => x.2)⟩
theorem zmk (R : Nat → Prop) (v : Value) (g : Gh) (w : World) (hR : ∀ b, R b → b < w.heap.size) (hv : zy R w v g) (hl : g.log.length ≤ 900000) :
  Calls Tryz.prog 10 #[v] w fun e w' => ∃ v', e = .returned (.tuple #[v', E J (zt g).2]) ∧ zy R w' v' (zt g).1 ∧ Z w.heap.size w w' := by
 obtain ⟨la, nl, lc, Y, oa, no, oc, X, rfl, hF⟩ := hv;obtain ⟨R', r1, r2, r3, r4⟩ := zhz R w 2;obtain ⟨L, bt, nx, O⟩ := g;simp only at hF hl ⊢
 have hYl : Y.length ≤ 900000 := by rw [← hF.says, List.length_map] at hl; exact hl
 have hbX := zax w (T #[G la nl lc, E J bt, E J nx, G oa no oc] 29) (T #[G U 0 0, E J 0, E J 0, G U 0 0] 29);have hN0 : Blk ((w.alloc (T #[G la nl lc, E J bt, E J nx, G oa no oc] 29)).alloc (T #[G U 0 0, E J 0, E J 0, G U 0 0] 29)) w.heap.size #[G la nl lc, E J bt, E J nx, G oa no oc] 29 := (Blk.new _ _ _).alloc _;have hN1 : Blk ((w.alloc (T #[G la nl lc, E J bt, E J nx, G oa no oc] 29)).alloc (T #[G U 0 0, E J 0, E J 0, G U 0 0] 29)) (w.heap.size + 1) #[G U 0 0, E J 0, E J 0, G U 0 0] 29 := zao _ _ _;have hsX : ((w.alloc (T #[G la nl lc, E J bt, E J nx, G oa no oc] 29)).alloc (T #[G U 0 0, E J 0, E J 0, G U 0 0] 29)).heap.size = w.heap.size + 2 := by simp
 have HR : Q ((∀ b, R b → R' b) ∧ R' (w.heap.size + 1) ∧ (∀ b, R' b → b < w.heap.size + 2)) := ⟨r1, r2 _ (by omega) (by omega), fun b hb => r4 b hb hR⟩;go_enter Tryz.func10, Tryz.ntmps10
 by_cases c : 19 < bt
 · have HE : Q (zt ⟨L, bt, nx, O⟩ = (⟨L, bt, nx, O⟩, 5)) := by show _ = _; unfold zt; rw [if_pos c]
  have HG := zA hF;clear hF r1 r2 r3 r4 hR hl hYl hbX hN0 hN1 hsX;have hbX := zax w (T #[G la nl lc, E J bt, E J nx, G oa no oc] 29) (T #[G la nl lc, E J bt, E J nx, G oa no oc] 29);have hN1 : Blk ((w.alloc (T #[G la nl lc, E J bt, E J nx, G oa no oc] 29)).alloc (T #[G la nl lc, E J bt, E J nx, G oa no oc] 29)) (w.heap.size + 1) #[G la nl lc, E J bt, E J nx, G oa no oc] 29 := zao _ _ _;go_wp2_with fail
  generalize ((w.alloc (T #[G la nl lc, E J bt, E J nx, G oa no oc] 29)).alloc (T #[G la nl lc, E J bt, E J nx, G oa no oc] 29)) = jz at *;have HF : Q (zy R jz (.agg #[G la nl lc, E J bt, E J nx, G oa no oc]) ⟨L, bt, nx, O⟩ ∧ Z w.heap.size w jz) := ⟨⟨la, nl, lc, Y, oa, no, oc, X, rfl, HG.out.below hbX⟩, hbX⟩;obtain ⟨e0, e1, e2, e3⟩ := hN1.cells4;clear hbX hN1;refine bodyPost_ret (v := .tuple #[.agg #[G la nl lc, E J bt, E J nx, G oa no oc], E J 5]) ?_ rfl ⟨_, by rw [HE.out], by rw [HE.out]; exact HF.out.1, HF.out.2⟩;simp [results, Tryz.results10, go_sem, e0, e1, e2, e3]
 · have HE : Q (zt ⟨L, bt, nx, O⟩ = (zo (L ++ [(4, 0, [])]), 0)) := by show _ = _; unfold zt; rw [if_neg c]
  have HG := zB (hF.wide r3) hYl;clear hF r1 r2 r3 r4 hR hl;go_upto_region 3 with fail
  generalize ((w.alloc (T #[G la nl lc, E J bt, E J nx, G oa no oc] 29)).alloc (T #[G U 0 0, E J 0, E J 0, G U 0 0] 29)) = V at *;have hNl := hN0.cell 0;simp only [List.getElem?_toArray, List.getElem?_cons_zero] at hNl
  have hNs := hN0.lt;have HsX := zA hsX;clear hsX
  go_wp2_with (
   first
   | (at_builtin; refine zg8 za6 zcv Tryz.underlying26 zcm rfl (by decide) _ rfl _ _ rfl (w.heap.size + 2) (G a5 n5 c5) Y rfl (HO5.out.below (zh w5 _)) (some ⟨w5.heap.size, 0, U⟩) 1 1 [(4, 0, (none, 0), [])] rfl rfl (zi.one (Blk.new w5 _ _) rfl) (by unfold maxLen; simp; omega) (by simp; omega) (by simp; omega) ?_; intro a6 n6 c6 w6 hown6 hn6 hb6; have hr6 := hown6.at za6; have HO6 : Q (zi 3 zaf w6 a6 (Y ++ [(4, 0, (none, 0), [])]) ∧ n6 = (Y ++ [((4, 0, (none, 0), []) : XL)]).length ∧ Out R' a6 (Y ++ [((4, 0, (none, 0), []) : XL)]).length ∧ Z w.heap.size w w6 ∧ Blk w6 (w.heap.size + 1) #[G U 0 0, E J 0, E J 0, G U 0 0] 29 ∧ w.heap.size + 2 ≤ w6.heap.size) := ⟨hr6.1, hr6.2.1, hown6.outR (fun b hb => HR.out.2.2 b hb), (HB5.out.1.alloc hs5 _).trans (hb6.mono (by omega)), (HB5.out.2.alloc _).below hb6 (by omega), by have := hb6.size; simp at this; omega⟩; clear hown6 hn6 hb6 hr6)
   | (at_builtin; refine zg8 za6 zcv Tryz.underlying26 zcm rfl (by decide) _ rfl _ _ rfl (w.heap.size + 2) (G (some ⟨V.heap.size, 0, U⟩) 0 0) [] rfl (zad.made (Blk.new _ _ _) _) la nl lc Y rfl HG.out.1.ln ((HG.out.1.log.below hbX).below (zh _ _)) (by unfold maxLen; simp; omega) (by simp; omega) (by have := HsX.out; rw [World.size_alloc]; omega) ?_; intro a5 n5 c5 w5 hown5 hn5 hb5; have HO5 : Q (zad 40 3 zaf w5 (w.heap.size + 2) (G a5 n5 c5) Y) := hown5; have HB5 : Q (Z w.heap.size w w5 ∧ Blk w5 (w.heap.size + 1) #[G U 0 0, E J 0, E J 0, G U 0 0] 29) := ⟨(hbX.alloc hbX.size _).trans (hb5.mono (by omega)), (hN1.alloc _).below hb5 (by omega)⟩; have hs5 : w.heap.size ≤ w5.heap.size := HB5.out.1.size; have hs5' : w.heap.size + 2 ≤ w5.heap.size := Nat.le_trans (Nat.le_of_eq HsX.out.symm) (by have := hb5.size; simp at this; omega); clear hown5 hn5 hb5))
  have hmap : (Y ++ [((4, 0, (U, 0), []) : XL)]).map ze = L ++ [(4, 0, [])] := by rw [List.map_append, HG.out.1.says]; rfl
  have HH := zgn (fun a l => zz R' w a l) R' a6 (Y ++ [(4, 0, (none, 0), [])]) c6 n6 w6 HO6.out.2.1 (by simp; omega) (fun b hb => by have := HR.out.2.2 b hb; have := HO6.out.2.2.2.2.2; omega) (fun a l h => h.below HO6.out.2.2.2.1)
   ⟨HO6.out.1, fun x hx => by
    rcases List.mem_append.1 hx with hx | hx
    · exact ((HG.out.1.parts x hx).below HO6.out.2.2.2.1).1
    · rw [List.mem_singleton.1 hx]; exact Or.inl rfl⟩ HO6.out.2.2.1 (fun x hx => by
    rcases List.mem_append.1 hx with hx | hx
    · exact HG.out.1.parts x hx
    · rw [List.mem_singleton.1 hx]; exact zz.nil _ _ _)
  rw [hmap] at HH;refine HH.mono ?_;rintro e w7 ⟨v7, rfl, hv7, hb7⟩;obtain ⟨la', nl', lc', Y', oa', no', oc', X', rfl, hF7⟩ := hv7;have hN7 := HO6.out.2.2.2.2.1.below hb7 HO6.out.2.2.2.2.1.lt;have hK := zb1 hN7 (G la' nl' lc') (E J (zo (L ++ [(4, 0, [])])).boot) (E J (zo (L ++ [(4, 0, [])])).next) (G oa' no' oc');obtain ⟨u0, u1, u2, u3⟩ := hN7.cells4;obtain ⟨f0, f1, f2, f3⟩ := hN7.free4;have hB7 := HO6.out.2.2.2.1.trans (hb7.mono (by have := HO6.out.2.2.2.2.2; omega));clear HH hmap hb7;generalize zo (L ++ [(4, 0, [])]) = zJ at *;obtain ⟨GL, gb, gn, GO⟩ := zJ;simp only at hF7 hK
  have HF : Q (zy R (r (r (r (r w7 ⟨w.heap.size + 1, 0, U⟩ (G la' nl' lc')) ⟨w.heap.size + 1, 1, U⟩ (E J gb)) ⟨w.heap.size + 1, 2, U⟩ (E J gn)) ⟨w.heap.size + 1, 3, U⟩ (G oa' no' oc')) (.agg #[G la' nl' lc', E J gb, E J gn, G oa' no' oc']) ⟨GL, gb, gn, GO⟩ ∧ Z w.heap.size w (r (r (r (r w7 ⟨w.heap.size + 1, 0, U⟩ (G la' nl' lc')) ⟨w.heap.size + 1, 1, U⟩ (E J gb)) ⟨w.heap.size + 1, 2, U⟩ (E J gn)) ⟨w.heap.size + 1, 3, U⟩ (G oa' no' oc'))) :=
   ⟨⟨la', nl', lc', Y', oa', no', oc', X', rfl, (hF7.keep (hK.2.mono (fun b _ hb => by subst hb; exact HR.out.2.1))).wide (fun b hb => Or.inl (HR.out.1 b hb))⟩, hB7.trans (hK.2.below hB7.size (fun b hb => by omega))⟩
  obtain ⟨e0, e1, e2, e3⟩ := hK.1.cells4;clear hF7 hN7 hK hB7;go_wp2_with fail
  clear u0 u1 u2 u3 f0 f1 f2 f3;generalize (r (r (r (r w7 ⟨w.heap.size + 1, 0, U⟩ (G la' nl' lc')) ⟨w.heap.size + 1, 1, U⟩ (E J gb)) ⟨w.heap.size + 1, 2, U⟩ (E J gn)) ⟨w.heap.size + 1, 3, U⟩ (G oa' no' oc')) = jz at *;refine bodyPost_ret (v := .tuple #[.agg #[G la' nl' lc', E J gb, E J gn, G oa' no' oc'], E J 0]) ?_ rfl ⟨_, by rw [HE.out], by rw [HE.out]; exact HF.out.1, HF.out.2⟩;simp [results, Tryz.results10, go_sem, e0, e1, e2, e3]
theorem zm.keptT {w w' : World} {base : Nat} {v : Value} {ms : List Q4} (h : zm w base v ms) {row : Option Nat} (hg : w.grownBy w' row) (hne : ∀ k, row = some k → ∃ cs t, Blk w k cs t ∧ t ≠ 25 ∧ t ≠ 90) : zm w' base v ms := by
 obtain ⟨X, h1, h2, h3⟩ := h;refine ⟨X, h1.keptT hg (fun k hk => ?_), h2, fun x hx => (h3 x hx).calm (zg.grown hg (fun k hk => ?_))⟩
 · obtain ⟨cs, t, hb, hn, _⟩ := hne k hk
  exact ⟨cs, t, hb, hn⟩
 · obtain ⟨cs, t, hb, _, hn⟩ := hne k hk
  exact ⟨cs, t, hb, hn⟩
theorem za.kinds {α : Type} {e t t' : TypeId} {size : Nat} {enc : α → List Value} {w : World} {base : Nat} {v : Value} {xs : List α} (h : za e size enc w base v xs) (h1 : e ≠ t) (h2 : e ≠ t') : ∀ k, v.ownBlock = some k → ∃ cs t0, Blk w k cs t0 ∧ t0 ≠ t ∧ t0 ≠ t' := fun k hk => by
 obtain ⟨_, cs, hb⟩ := h.blk hk;exact ⟨cs, e, hb, h1, h2⟩
theorem filt_yes {X : List XO} {k : Nat} (h : k < X.length) (hd : X[k].2.2.1 = true) : (X.take (k + 1)).filter (fun x => x.2.2.1) = (X.take k).filter (fun x => x.2.2.1) ++ [X[k]] := by rw [zaw h, List.filter_append]; simp [hd]
theorem filt_no {X : List XO} {k : Nat} (h : k < X.length) (hd : X[k].2.2.1 = false) : (X.take (k + 1)).filter (fun x => x.2.2.1) = (X.take k).filter (fun x => x.2.2.1) := by rw [zaw h, List.filter_append]; simp [hd]
theorem filn_yes {O : List O4} {k : Nat} (h : k < O.length) (hd : O[k].2.2.1 = true) : ((O.take (k + 1)).filter (fun x => !x.2.2.1)).flatMap za1 = ((O.take k).filter (fun x => !x.2.2.1)).flatMap za1 := by rw [zaw h, List.filter_append]; simp [hd]
theorem filn_no {O : List O4} {k : Nat} (h : k < O.length) (hd : O[k].2.2.1 = false) : ((O.take (k + 1)).filter (fun x => !x.2.2.1)).flatMap za1 = ((O.take k).filter (fun x => !x.2.2.1)).flatMap za1 ++ za1 O[k] := by rw [zaw h, List.filter_append]; simp [hd]
theorem zmo (R : Nat → Prop) (v : Value) (g : Gh) (w : World) (hR : ∀ b, R b → b < w.heap.size) (hv : zy R w v g) (hf : zcd g.opn) :
  Calls Tryz.prog 16 #[v] w fun e w' => ∃ v' sv, e = .returned (.tuple #[v', sv]) ∧ zy R w' v' (zk g).1 ∧ zm w' w.heap.size sv (zk g).2 ∧ Z w.heap.size w w' := by
 obtain ⟨la, nl, lc, Y, oa, no, oc, X, rfl, hF⟩ := hv;obtain ⟨R', r1, r2, r3, r4⟩ := zhz R w 2;obtain ⟨L, bt, nx, O⟩ := g;simp only at hF hf
 have hbX := zax w (T #[G la nl lc, E J bt, E J nx, G oa no oc] 29) (T #[G U 0 0, E J 0, E J 0, G U 0 0] 29);have hN0 : Blk ((w.alloc (T #[G la nl lc, E J bt, E J nx, G oa no oc] 29)).alloc (T #[G U 0 0, E J 0, E J 0, G U 0 0] 29)) w.heap.size #[G la nl lc, E J bt, E J nx, G oa no oc] 29 := (Blk.new _ _ _).alloc _;have hN1 : Blk ((w.alloc (T #[G la nl lc, E J bt, E J nx, G oa no oc] 29)).alloc (T #[G U 0 0, E J 0, E J 0, G U 0 0] 29)) (w.heap.size + 1) #[G U 0 0, E J 0, E J 0, G U 0 0] 29 := zao _ _ _;have hsX : ((w.alloc (T #[G la nl lc, E J bt, E J nx, G oa no oc] 29)).alloc (T #[G U 0 0, E J 0, E J 0, G U 0 0] 29)).heap.size = w.heap.size + 2 := by simp
 have HR : Q ((∀ b, R b → R' b) ∧ R' w.heap.size ∧ R' (w.heap.size + 1) ∧ (∀ b, R' b → b < w.heap.size + 2)) := ⟨r1, r2 _ (by omega) (by omega), r2 _ (by omega) (by omega), fun b hb => r4 b hb hR⟩;have HG : Q (zbf R' w la nl Y oa no X L O ∧ zcd O ∧ X.length = O.length) := ⟨hF.wide r3, hf, by rw [← hF.osays, List.length_map]⟩;have hnl : no ≤ 100000 := by have h1 := hF.on; have h2 := hf.1; have h3 := HG.out.2.2; omega
 clear hF r1 r2 r3 r4 hR hf;go_enter Tryz.func16, Tryz.ntmps16
 go_upto_region 3 with fail
 generalize ((w.alloc (T #[G la nl lc, E J bt, E J nx, G oa no oc] 29)).alloc (T #[G U 0 0, E J 0, E J 0, G U 0 0] 29)) = V at *;have HV := zD hbX hN0 hN1 hsX;have n3 := hN0.cell 3;simp only [List.getElem?_toArray, List.getElem?_cons_zero, List.getElem?_cons_succ] at n3
 have nl0 := hN0.lt;clear hbX hN0 hN1 hsX;go_wp2;clear n3;go_loopw [4, 5, 11] (fun rv sv i w' => ∃ k : Nat, k ≤ no ∧ i = E J k ∧ Q (za 58 4 zaj w' V.heap.size rv ((X.take k).filter (fun x => x.2.2.1)) ∧ zm w' V.heap.size sv (((O.take k).filter (fun x => !x.2.2.1)).flatMap za1) ∧ Z V.heap.size V w')) (fun _ _ i _ => no - (intOf i).toNat)
 case atStart => exact ⟨0, Nat.zero_le _, rfl, za.nil _ _, zm.nil _ _, Below.refl _ _⟩
 case round =>
  obtain ⟨k, hk, rfl, hH⟩ := hrel;by_cases hlt : k < no
  · have hkX : k < X.length := by have := HG.out.1.on; omega
   have hkO : k < O.length := by have := HG.out.2.2; omega
   obtain ⟨hO, hM, hbw⟩ := hH.out;have hbW := HV.out.1.trans (hbw.mono HV.out.1.size);have hsz := hbw.size
   have hOk : O[k] = zw X[k] := by
    have : O = X.map zw := HG.out.1.osays.symm;subst this;rw [List.getElem_map]
   have hfk := HG.out.2.1.2 O[k] (List.getElem_mem hkO);have HY1 : Q (X[k].2.2.1 = true → (X.take (k + 1)).filter (fun x => x.2.2.1) = (X.take k).filter (fun x => x.2.2.1) ++ [X[k]] ∧ ((O.take (k + 1)).filter (fun x => !x.2.2.1)).flatMap za1 = ((O.take k).filter (fun x => !x.2.2.1)).flatMap za1) := fun h => ⟨filt_yes hkX h, filn_yes hkO (by rw [hOk]; exact h)⟩
   have HY2 : Q (X[k].2.2.1 = false → (X.take (k + 1)).filter (fun x => x.2.2.1) = (X.take k).filter (fun x => x.2.2.1) ∧ ((O.take (k + 1)).filter (fun x => !x.2.2.1)).flatMap za1 = ((O.take k).filter (fun x => !x.2.2.1)).flatMap za1 ++ za1 (zw X[k])) := fun h => ⟨filt_no hkX h, by rw [filn_no hkO (by rw [hOk]; exact h), hOk]⟩
   have hlr : ((X.take k).filter (fun x => x.2.2.1)).length ≤ 100000 := by have h1 := List.length_filter_le (fun x : XO => x.2.2.1) (X.take k); rw [List.length_take] at h1; omega
   have hlm : (((O.take k).filter (fun x => !x.2.2.1)).flatMap za1).length ≤ 300000 := by
    have h1 := zf7 zgx ((O.take k).filter (fun x => !x.2.2.1));have h2 := List.length_filter_le (fun x : O4 => !x.2.2.1) (O.take k);rw [List.length_take] at h2;omega
   obtain ⟨g, o, rfl, hg, d0, d1, d2, d3, hq⟩ := (HG.out.1.opns.lies.below hbW).get hkX;rw [hOk] at hfk;generalize (X.take k).filter (fun x => x.2.2.1) = jz at *;generalize ((O.take k).filter (fun x => !x.2.2.1)).flatMap za1 = ms at *;generalize X[k] = x at *;obtain ⟨dd, ⟨⟨pa, pc⟩, l⟩, dec, ⟨ha, hc⟩, hd⟩ := x;obtain ⟨av, nv, cv, rfl⟩ := hO.slice zar;have HW : Q (za 58 4 zaj wr V.heap.size (G av nv cv) jz ∧ zm wr V.heap.size u5 ms ∧ Z V.heap.size V wr ∧ zag wr pa l ∧ l.length ≤ 4) := ⟨hO, hM, hbw, hq.1, hfk.1⟩;simp only [zw] at d0 d1 d2 d3 HY1 HY2
   obtain ⟨ln, hn, HLL⟩ : ∃ ln hn, Q (l.length = ln ∧ hd.length = hn) := ⟨_, _, rfl, rfl⟩;rw [HLL.out.1] at d1;rw [HLL.out.2] at d3;clear hH hO hM hbw hbW hq hfk hOk hkO hkX;have HB2 : Q (Z wr.heap.size wr ((wr.alloc (T #[E J dd, G pa ln pc, .bool dec, G ha hn hc] 58)).alloc (T #[E J dd, G pa ln pc, .bool dec, G ha hn hc] 58))) := zax _ _ _
   cases dec with
   | true =>
    have HE := HY1.out rfl;have HE1 : Q _ := HE;clear HE HY1 HY2;go_wp2_with (at_builtin; refine zbi zar oneQ Tryz.underlying27 zd1 rfl (by decide) _ rfl _ _ rfl V.heap.size _ jz rfl (HW.out.1.below HB2.out (kaa _)) (some ⟨wr.heap.size + 1, 0, U⟩) 1 1 [(dd, ((pa, pc), l), true, ((ha, hc), hd))] rfl rfl (zi.one (zao wr _ _) (by simp [zaj, HLL.out.1, HLL.out.2])) (by unfold maxLen; simp; omega) (by simp; omega) (by simp; omega) ?_; intro a4 n4 c4 w4 hown4 hn4 hgrow4 hat4; clear hn4)
    have HF : Q (za 58 4 zaj w4 V.heap.size (G a4 n4 c4) ((X.take (k + 1)).filter (fun x => x.2.2.1)) ∧ zm w4 V.heap.size u5 (((O.take (k + 1)).filter (fun x => !x.2.2.1)).flatMap za1) ∧ Z V.heap.size V w4) := by
     rw [HE1.out.1, HE1.out.2];exact ⟨hown4, (HW.out.2.1.below HB2.out).keptT hgrow4 ((HW.out.1.below HB2.out (kaa _)).kinds (by decide) (by decide)), (HW.out.2.2.1.trans (HB2.out.mono hsz)).grown hgrow4 (by simp; omega) HW.out.1.base⟩
    clear hown4 hgrow4 hat4 d0 d1 d2 d3;go_wp2;go_roundw
    case rel => exact ⟨k + 1, by omega, by go_num, HF⟩
    case measure => simp [intOf]; omega
   | false =>
    have HE := HY2.out rfl;have HE1 : Q _ := HE;clear HE HY1 HY2 HB2;obtain ⟨zX, hUl, hU, hUs, hUT⟩ := HW.out.2.1.len;obtain ⟨a5, n5, c5, rfl⟩ := hU.slice zbu;have HU := zC hU hUs hUT;have hU3 : zX.length ≤ 300000 := by omega
    clear hU hUs hUT hUl;go_wp2_with fail
    have hbA := zh wr (T #[E J dd, G pa ln pc, .bool false, G ha hn hc] 58);have hsA : Q ((wr.alloc (T #[E J dd, G pa ln pc, .bool false, G ha hn hc] 58)).heap.size = wr.heap.size + 1) := World.size_alloc _ _;generalize wr.alloc (T #[E J dd, G pa ln pc, .bool false, G ha hn hc] 58) = A at *;refine (zkr dd pa ln pc l false ha hn hc hd A HLL.out.1.symm HW.out.2.2.2.2 (HW.out.2.2.2.1.below hbA)).mono ?_;rintro e w2 ⟨v2, rfl, hM2, hb2⟩;have hml2 := zgx (dd, l, false, hd);obtain ⟨zV, hTl, hT, hTs, hTT⟩ := hM2.len;obtain ⟨a2, n2, c2, rfl⟩ := hT.slice zbu;have hTr := hT.at zbu;have hT3 : zV.length ≤ 3 := by omega
    have HT := zE hTs hTT hTr.2.1 hTr.1 (hbA.trans (hb2.mono hbA.size));have hs2 := HT.out.2.2.2.2.size;have hsA2 := hbA.size;clear hM2 hT hTs hTT hTr hb2 hbA hTl hml2 d0 d1 d2 d3;go_wp2_with (at_builtin; refine zbi zbu oneM Tryz.underlying41 zfn rfl (by decide) _ rfl _ _ rfl V.heap.size _ zX rfl (HU.out.1.below HT.out.2.2.2.2 (kaa _)) a2 n2 c2 zV rfl HT.out.2.2.1 HT.out.2.2.2.1 (by unfold maxLen; omega) (by omega) (by omega) ?_; intro a4 n4 c4 w4 hown4 hn4 hgrow4 hat4; clear hn4)
    have HF : Q (za 58 4 zaj w4 V.heap.size (G av nv cv) ((X.take (k + 1)).filter (fun x => x.2.2.1)) ∧ zm w4 V.heap.size (G a4 n4 c4) (((O.take (k + 1)).filter (fun x => !x.2.2.1)).flatMap za1) ∧ Z V.heap.size V w4) := by
     rw [HE1.out.1, HE1.out.2];refine ⟨(HW.out.1.below HT.out.2.2.2.2 (kaa _)).keptT hgrow4 ((HU.out.1.below HT.out.2.2.2.2 (kaa _)).grownT (by decide)), ?_, (HW.out.2.2.1.trans (HT.out.2.2.2.2.mono hsz)).grown hgrow4 (by omega) HU.out.1.base⟩;exact zm.app HU.out.2.1 HU.out.2.2 (zg.below HT.out.2.2.2.2 (kaa _)) (HU.out.1.below HT.out.2.2.2.2 (kaa _)) hgrow4 hown4 HT.out.1 (fun y hy => (HT.out.2.1 y hy).mono (by omega))
    clear hown4 hgrow4 hat4;go_wp2;go_roundw
    case rel => exact ⟨k + 1, by omega, by go_num, HF⟩
    case measure => simp [intOf]; omega
  · have hH2 : za 58 4 zaj wr V.heap.size u4 (X.filter (fun x => x.2.2.1)) ∧ zm wr V.heap.size u5 ((O.filter (fun x => !x.2.2.1)).flatMap za1) ∧ Z V.heap.size V wr := by
    have := hH.out;rwa [List.take_of_length_le (by have h1 := HG.out.1.on; omega), List.take_of_length_le (by have h1 := HG.out.1.on; have h2 := HG.out.2.2; omega)] at this
   obtain ⟨hO, hM, hbw⟩ := hH2;obtain ⟨av, nv, cv, rfl⟩ := hO.slice zar;have hat := hO.at zar;have hB0 := HV.out.2.1.below hbw HV.out.2.1.lt;have hB1 := HV.out.2.2.1.below hbw HV.out.2.2.1.lt;have hbW := HV.out.1.trans (hbw.mono HV.out.1.size);have hS3 : Blk (r wr ⟨w.heap.size, 3, U⟩ (G av nv cv)) w.heap.size #[G la nl lc, E J bt, E J nx, G av nv cv] 29 := hB0.set 3 _;have hS31 : Blk (r wr ⟨w.heap.size, 3, U⟩ (G av nv cv)) (w.heap.size + 1) #[G U 0 0, E J 0, E J 0, G U 0 0] 29 := hB1.setOther (a := ⟨w.heap.size, 3, U⟩) (by simp) _;have hK3 : zf R' wr (r wr ⟨w.heap.size, 3, U⟩ (G av nv cv)) := (zf.refl R' wr).setCell (p := ⟨w.heap.size, 3, U⟩) HR.out.2.1 _;have hbS : Z w.heap.size w (r wr ⟨w.heap.size, 3, U⟩ (G av nv cv)) := hbW.setCell (kaa _) _;have hFw := (HG.out.1.below hbW).keep hK3
   have hMs : zm (r wr ⟨w.heap.size, 3, U⟩ (G av nv cv)) V.heap.size u5 ((O.filter (fun x => !x.2.2.1)).flatMap za1) := by
    obtain ⟨jz, z1, z2, z3⟩ := hM;exact ⟨jz, z1.setOther (a := ⟨w.heap.size, 3, U⟩) hB0 (by decide) _, z2, fun x hx => (z3 x hx).calm (zg.setCell (a := ⟨w.heap.size, 3, U⟩) hB0 (by decide) _)⟩
   have hOs : za 58 4 zaj (r wr ⟨w.heap.size, 3, U⟩ (G av nv cv)) V.heap.size (G av nv cv) (X.filter (fun x => x.2.2.1)) := hO.setOther (a := ⟨w.heap.size, 3, U⟩) hB0 (by decide) _;have m3 := hB0.cell 3;have k3 := hB0.free 3;simp only [List.getElem?_toArray, List.getElem?_cons_zero, List.getElem?_cons_succ] at m3
   have hbl := hB0.lt;clear hH hO hM hB0 hB1 hbw hbW hK3 hat;go_upto_region 11 with fail
   clear m3 k3 hbl;generalize r wr ⟨w.heap.size, 3, U⟩ (G av nv cv) = S at *;obtain ⟨s0, s1, s2, s3⟩ := hS3.cells4;obtain ⟨t0, t1, t2, t3⟩ := hS31.cells4;obtain ⟨y0, y1, y2, y3⟩ := hS31.free4;have hl0 := hS3.lt;have hl1 := hS31.lt;have hKK := zb1 hS31 (G la nl lc) (E J bt) (E J nx) (G av nv cv);have hKb := hKK.2.below (B := w.heap.size + 1) (by omega) (fun b hb => by omega)
   have HF : Q (zy R ((((S.setCell ⟨w.heap.size + 1, 0, U⟩ (G la nl lc)).setCell ⟨w.heap.size + 1, 1, U⟩ (E J bt)).setCell ⟨w.heap.size + 1, 2, U⟩ (E J nx)).setCell ⟨w.heap.size + 1, 3, U⟩ (G av nv cv)) (.agg #[G la nl lc, E J bt, E J nx, G av nv cv]) (zk ⟨L, bt, nx, O⟩).1 ∧ zm ((((S.setCell ⟨w.heap.size + 1, 0, U⟩ (G la nl lc)).setCell ⟨w.heap.size + 1, 1, U⟩ (E J bt)).setCell ⟨w.heap.size + 1, 2, U⟩ (E J nx)).setCell ⟨w.heap.size + 1, 3, U⟩ (G av nv cv)) w.heap.size u5 (zk ⟨L, bt, nx, O⟩).2 ∧ Z w.heap.size w ((((S.setCell ⟨w.heap.size + 1, 0, U⟩ (G la nl lc)).setCell ⟨w.heap.size + 1, 1, U⟩ (E J bt)).setCell ⟨w.heap.size + 1, 2, U⟩ (E J nx)).setCell ⟨w.heap.size + 1, 3, U⟩ (G av nv cv))) := by
    have hk1 : zf R' S _ := hKK.2.mono (fun b _ hb => by subst hb; exact HR.out.2.2.1);have hq := hFw.keep hk1;have hVs := HV.out.2.2.2;have hOk := hOs.at zar;have hout : Out R' av (X.filter (fun x => x.2.2.1)).length := hOs.outR (fun b hb => by have := HR.out.2.2.2 b hb; omega) _;refine ⟨⟨la, nl, lc, Y, av, nv, cv, X.filter (fun x => x.2.2.1), rfl, ?_⟩, ?_, ?_⟩
    · have hm : (X.filter (fun x => x.2.2.1)).map zw = O.filter (fun o => o.2.2.1) := by
      rw [← HG.out.1.osays, List.filter_map];rfl
     exact (zbf.wide ⟨hq.ln, hq.log, hq.lout, hq.says, hq.parts, hOk.2.1, hOk.1.keepR hout hk1, hout, hm, fun x hx => hq.oparts x (List.mem_filter.1 hx).1⟩ (fun b hb => Or.inl (HR.out.1 b hb)))
    · obtain ⟨jz, z1, z2, z3⟩ := hMs
     refine ⟨jz, ?_, z2, fun x hx => ((z3 x hx).mono (by omega)).calm ?_⟩
     · exact ((((z1.mono (by omega)).setOther (a := ⟨w.heap.size + 1, 0, U⟩) hS31 (by decide) _).setOther (a := ⟨w.heap.size + 1, 1, U⟩) (hS31.set 0 _) (by decide) _).setOther (a := ⟨w.heap.size + 1, 2, U⟩) ((hS31.set 0 _).set 1 _) (by decide) _).setOther (a := ⟨w.heap.size + 1, 3, U⟩) (((hS31.set 0 _).set 1 _).set 2 _) (by decide) _
     · exact (((zg.setCell (a := ⟨w.heap.size + 1, 0, U⟩) hS31 (by decide) _).trans (zg.setCell (a := ⟨w.heap.size + 1, 1, U⟩) (hS31.set 0 _) (by decide) _)).trans (zg.setCell (a := ⟨w.heap.size + 1, 2, U⟩) ((hS31.set 0 _).set 1 _) (by decide) _)).trans (zg.setCell (a := ⟨w.heap.size + 1, 3, U⟩) (((hS31.set 0 _).set 1 _).set 2 _) (by decide) _)
    · exact hbS.trans (hKb.mono (by omega))
   obtain ⟨e0, e1, e2, e3⟩ := hKK.1.cells4;clear hS3 hS31 hFw hMs hOs hKK hKb hbS;go_wp2_with fail
   clear s0 s1 s2 s3 t0 t1 t2 t3 y0 y1 y2 y3 hl0 hl1;generalize ((((S.setCell ⟨w.heap.size + 1, 0, U⟩ (G la nl lc)).setCell ⟨w.heap.size + 1, 1, U⟩ (E J bt)).setCell ⟨w.heap.size + 1, 2, U⟩ (E J nx)).setCell ⟨w.heap.size + 1, 3, U⟩ (G av nv cv)) = jz at *;refine bodyPost_ret (v := .tuple #[.agg #[G la nl lc, E J bt, E J nx, G av nv cv], u5]) ?_ rfl ⟨_, _, rfl, HF.out.1, HF.out.2.1, HF.out.2.2⟩;simp [results, Tryz.results16, go_sem, e0, e1, e2, e3]
end Go.Proofs.YtpcnlifmkhagkaaGreat
