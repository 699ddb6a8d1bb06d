import Derived.Test.YtpcnlifmkhagkaaGreatKFJ10
set_option maxRecDepth 20000
set_option maxHeartbeats 20000000
namespace Go.Proofs.YtpcnlifmkhagkaaGreat
open Go.RowKit
open Go.Value renaming slice → G, int → E
open Go.IntKind renaming i64 → J
open _root_.Option renaming none → U
open Go.Obj renaming cells → T
open Go.RowKit renaming Hid → Q, Below → Z
open _root_.Nat renaming le_refl → kaa
attribute [local go_sem ↓] Go.wp_at_zero Go.wp_at_succ
theorem flat_encI (l : List Int) : zy zq l = l.map (Value.int J) := by
 induction l with
 | nil => rfl
 | cons a t ih =>
  show zq a ++ zy zq t = _
  rw [ih];rfl
theorem zdc.own {w : World} {base : Nat} {v : Value} {l : List Int} (h : zdc w base v l) : zd 3 1 zq w base v l := by
 unfold zd
 rw [flat_encI];exact h
theorem zf6 (l : List P3) : zd3 l 3 = zu l := by
 unfold zd3 zu
 refine List.filter_congr (fun n hn => ?_);have h3 : n < 3 := by simp at hn; omega
 simp [h3]
def zeg (o : O4) (hs : List Int) : List Q4 := (hs.filter fun n => !inI o.2.2.2 n).map fun n => if o.2.2.1 = true then (4, o.1, n, []) else (1, o.1, n, ofB o.2.1 n)
theorem zmh (o : O4) : zeg o (zu o.2.1) = zba o := rfl
theorem zoy {o : O4} {hs : List Int} {k : Nat} (h : k < hs.length) : zeg o (hs.take (k + 1)) = zeg o (hs.take k) ++ (if inI o.2.2.2 hs[k] = true then [] else [if o.2.2.1 = true then (4, o.1, hs[k], []) else (1, o.1, hs[k], ofB o.2.1 hs[k])]) := by
 unfold zeg
 rw [zax h, List.filter_append, List.map_append];congr 1
 cases c : inI o.2.2.2 hs[k] <;> simp [c]
theorem zlh (o : O4) (hs : List Int) : (zeg o hs).length ≤ hs.length := by
 unfold zeg
 rw [List.length_map];exact List.length_filter_le _ _
theorem zee (l : List P3) : (zu l).length ≤ 3 := List.length_filter_le _ _
theorem zm.len {w : World} {base : Nat} {v : Value} {ms : List Q4} (h : zm w base v ms) : ∃ X : List XM, X.length = ms.length ∧ zd 25 4 zcf w base v X ∧ X.map zde = ms ∧ ∀ x ∈ X, zam base w x.2.2.2.1.1 x.2.2.2.2 := by
 obtain ⟨X, h1, h2, h3⟩ := h;exact ⟨X, by rw [← h2, List.length_map], h1, h2, h3⟩
theorem zm.snoc {w w2 w4 : World} {base : Nat} {X : List XM} {ms : List Q4} {v v4 : Value} {x : XM} (hX : X.map zde = ms) (hT : ∀ y ∈ X, zam base w y.2.2.2.1.1 y.2.2.2.2) (hC : zi 90 w w2) (hO : zd 25 4 zcf w2 base v X) (hg : w2.grownBy w4 v.ownBlock) (h4 : zd 25 4 zcf w4 base v4 (X ++ [x])) (hx : zam base w2 x.2.2.2.1.1 x.2.2.2.2) : zm w4 base v4 (ms ++ [zde x]) := by
 have hC2 : zi 90 w2 w4 := zi.grown hg (hO.grownT (by decide));refine ⟨X ++ [x], h4, by rw [List.map_append, hX]; rfl, fun y hy => ?_⟩;rcases List.mem_append.1 hy with hy | hy
 ·exact ((hT y hy).calm hC).calm hC2
 ·rw [List.mem_singleton.1 hy]; exact hx.calm hC2
theorem zjo (d : Int) (pa : Option Addr) (np pc : Nat) (l : List P3) (dec : Bool) (ha : Option Addr) (nh hc : Nat) (hd : List Int) (w : World) (hnp : np = l.length) (hl : l.length ≤ 4) (hp : zai w pa l) (hnh : nh = hd.length) (hhl : hd.length ≤ 9223372036854775807) (hh : zk 1 zq w ha hd) :
  Calls Tryz.prog 53 #[.agg #[E J d, G pa np pc, .bool dec, G ha nh hc]] w fun e w' => ∃ v', e = .returned v' ∧ zm w' w.heap.size v' (zba (d, l, dec, hd)) ∧ Z w.heap.size w w' := by
 have HN := zF hnp hl hp hnh hhl hh;clear hnp hl hp hnh hhl hh;have hb0 := zg w (T #[E J d, G pa np pc, .bool dec, G ha nh hc] 58);have hN0 : Blk (w.alloc (T #[E J d, G pa np pc, .bool dec, G ha nh hc] 58)) w.heap.size #[E J d, G pa np pc, .bool dec, G ha nh hc] 58 := Blk.new _ _ _;go_enter Tryz.func53, Tryz.ntmps53
 go_wp2_with fail
 generalize w.alloc (T #[E J d, G pa np pc, .bool dec, G ha nh hc] 58) = W at *;refine (zg3 pa l pc np W HN.out.1 HN.out.2.1 (HN.out.2.2.1.below hb0)).mono ?_;rintro e w1 ⟨hv, rfl, hoI, hb1⟩;rw [zf6] at hoI;have hHL := zee l;have HAll : Q (zeg (d, l, dec, hd) (zu l) = zba (d, l, dec, hd)) := zmh _;generalize zu l = hs at *;obtain ⟨ga, gn, gc, rfl⟩ := hoI.own.slice zal;have j8 := hoI.own.at zal;have hgn := j8.2.1;have HR := zF j8.1 (hN0.below hb1 hN0.lt) (hb0.trans (hb1.mono hb0.size)) ((HN.out.2.2.1.below hb0).below hb1) ((HN.out.2.2.2.2.2.below hb0).below hb1) hgn;have hgn3 : gn ≤ 3 := by omega
 clear hoI j8 hb1 hb0 hN0 hgn hHL;go_wp2;go_loopw [3, 10] (fun v i w' => ∃ k : Nat, k ≤ gn ∧ i = E J k ∧ Q (zm w' w1.heap.size v (zeg (d, l, dec, hd) (hs.take k)) ∧ Z w1.heap.size w1 w')) (fun _ i _ => gn - (intOf i).toNat)
 case atStart => exact ⟨0, Nat.zero_le _, rfl, zm.nil _ _, Below.refl _ _⟩
 case round =>
  obtain ⟨k, hk, rfl, hR⟩ := hrel;by_cases hlt : k < gn
  ·have hkh : k < hs.length := by have := HR.out.2.2.2.2.2; omega
   obtain ⟨hM, hbw⟩ := hR.out;have HE : Q (zeg (d, l, dec, hd) (hs.take (k + 1)) = zeg (d, l, dec, hd) (hs.take k) ++ (if inI hd hs[k] = true then [] else [if dec = true then (4, d, hs[k], []) else (1, d, hs[k], ofB l hs[k])])) := zoy hkh;have hml := zlh (d, l, dec, hd) (hs.take k);rw [List.length_take] at hml;generalize zeg (d, l, dec, hd) (hs.take k) = ms at *;obtain ⟨X, hXl, hO, hX, hT⟩ := hM.len;obtain ⟨av, nv, cv, rfl⟩ := hO.slice zby
   have hBk := HR.out.2.1.below hbw HR.out.2.1.lt;have c1 := hBk.cell 1;have c3 := hBk.cell 3;simp only [List.getElem?_toArray, List.getElem?_cons_zero, List.getElem?_cons_succ] at c1 c3
   have hBl := hBk.lt;rcases HR.out.1.below hbw with h0 | ⟨g, o, rfl, hg, hcs⟩
   ·rw [h0] at hkh; simp at hkh
   have d0 := hcs k hkh 0 _ rfl;simp only [Nat.mul_one, Nat.add_zero] at d0
   have HW : Q (zd 25 4 zcf wr w1.heap.size (G av nv cv) X ∧ X.map zde = ms ∧ (∀ x ∈ X, zam w1.heap.size wr x.2.2.2.1.1 x.2.2.2.2) ∧ Z w1.heap.size w1 wr ∧ Blk wr w.heap.size #[E J d, G pa np pc, .bool dec, G ha nh hc] 58 ∧ X.length ≤ 3) := ⟨hO, hX, hT, hbw, hBk, by omega⟩;have HM0 := zA hM;clear hR hM hO hX hT hBk hcs hml hXl;generalize hs[k] = x at *;go_wp2_with fail
   refine (zfq ha hd hc nh x wr HN.out.2.2.2.1 HN.out.2.2.2.2.1 (HR.out.2.2.2.2.1.below HW.out.2.2.2.1)).mono ?_;rintro e w2 ⟨rfl, hb2⟩;have hsz := HW.out.2.2.2.1.size;have HB2 := zB hb2 (HW.out.2.2.2.1.trans (hb2.mono hsz));have hBk2 := HW.out.2.2.2.2.1.below hb2 HW.out.2.2.2.2.1.lt;have hs2 := HB2.out.2.size;cases hin : inI hd x
   ·rw [hin, if_neg (by decide)] at HE
    have e0 := hBk2.cell 0;have e1 := hBk2.cell 1;have e2 := hBk2.cell 2;simp only [List.getElem?_toArray, List.getElem?_cons_zero, List.getElem?_cons_succ] at e0 e1 e2
    have hBl2 := hBk2.lt;clear c1 c3 d0 hb2 hin hBl
    cases dec with
    | true =>
     rw [if_pos rfl] at HE;have HO2 := zA (HW.out.1.below HB2.out.1 (kaa _));have hX3 := HW.out.2.2.2.2.2;clear hBk2;go_wp2_with (at_builtin; refine zbk zby oneM Tryz.underlying41 zfr rfl (by decide) _ rfl _ _ rfl w1.heap.size _ X rfl (HO2.out.below (zg w2 _) (kaa _)) (some ⟨w2.heap.size, 0, U⟩) 1 1 [(4, d, x, (U, 0), [])] rfl rfl (zk.one (Blk.new w2 _ _) rfl) (by unfold maxLen; simp; omega) (by simp; omega) (by simp; omega) ?_; intro a4 n4 c4 w4 jv hn4 jy jQ; clear hn4)
     have HF : Q (zm w4 w1.heap.size (G a4 n4 c4) (zeg (d, l, true, hd) (hs.take (k + 1))) ∧ Z w1.heap.size w1 w4) := by
      refine ⟨?_, ?_⟩
      ·rw [HE.out]
       exact zm.snoc (x := (4, d, x, (U, 0), [])) HW.out.2.1 HW.out.2.2.1 ((zi.below HB2.out.1 (kaa _)).trans (zi.alloc _ _ _)) (HO2.out.below (zg w2 _) (kaa _)) jy jv (Or.inl rfl)
      ·exact (HB2.out.2.alloc hs2 _).grown jy (by simp; omega) HO2.out.base
     clear jv jy jQ e0 e1 e2;go_wp2;go_roundw
     case rel => exact ⟨k + 1, by omega, by go_num, HF⟩
     case measure => simp [intOf]; omega
    | false =>
     rw [if_neg (by decide)] at HE;have hX3 := HW.out.2.2.2.2.2;have HK : Q (∀ w', Z w1.heap.size w2 w' → (w'.cell? ⟨w.heap.size, 0, U⟩ = some (E J d) ∧ w'.cell? ⟨w.heap.size, 1, U⟩ = some (G pa np pc))) := fun w' hb => ⟨(hBk2.below hb HR.out.2.1.lt).cell 0, (hBk2.below hb HR.out.2.1.lt).cell 1⟩
     have hX0 : Z w2.heap.size w2 w2.drew := (Below.refl _ _).drew;have hX1 : Z w1.heap.size w2 w2.drew := (Below.refl _ _).drew;have HP2 := zB (HR.out.2.2.2.1.below HB2.out.2) (HW.out.1.below HB2.out.1 (kaa _));clear hBk2 e0 e1;go_upto_region 5 with fail
     clear e2
     go_region_held3 (fun w' => (w'.cell? ⟨w.heap.size, 0, U⟩ = some (E J d) ∧ w'.cell? ⟨w.heap.size, 1, U⟩ = some (G pa np pc))) (
      first
      | (with_reducible exact HK.out _ h4W)
      | (with_reducible exact HK.out _ hHW)
      | (with_reducible exact HK.out _ hHA)
      | (with_reducible exact HK.out _ hX1)
      | (with_reducible exact HK.out _ (Below.refl _ _))) (
      first
      | (refine ze9 zby oneM Tryz.underlying41 zfr rfl (by decide) _ rfl _ _ rfl w1.heap.size _ X rfl ((HP2.out.2.below hH (kaa _)).below (zg wH _) (kaa _)) (some ⟨wH.heap.size, 0, U⟩) 1 1 [(1, d, x, (a3, c3), ofB l x)] rfl rfl (zk.one (Blk.new wH _ _) rfl) (by unfold maxLen; simp; omega) (by simp; omega) (by have := hH.size; simp; omega) ?_; intro a4 n4 c4 w4 jv hn4 jy jQ; clear hn4; have h4W : Z w1.heap.size w2 w4 := hHA.grown jy (by have := hH.size; simp; omega) HP2.out.2.base)
      | (go_at_call 37; refine (zky x pa l pc np _ HN.out.1 HN.out.2.1 (HP2.out.1.below hX0)).mono ?_; rintro e wH ⟨v3, rfl, ho3, hb3⟩; obtain ⟨a3, c3, rfl, hT3, -⟩ := ho3.typed; have hH : Z w2.heap.size w2 wH := hX0.trans (hb3.mono hX0.size); have hHW : Z w1.heap.size w2 wH := hH.mono hs2; have hHA := hHW.alloc (by have := hH.size; omega) (T #[E J 1, E J d, E J x, G a3 (ofB l x).length c3] 25)))
     all_goals
      have HF : Q (zm w4 w1.heap.size (G a4 n4 c4) (zeg (d, l, false, hd) (hs.take (k + 1))) ∧ Z w1.heap.size w1 w4) := by
       refine ⟨?_, ?_⟩
       ·rw [HE.out]
        exact zm.snoc (x := (1, d, x, (a3, c3), ofB l x)) HW.out.2.1 HW.out.2.2.1 (((zi.below HB2.out.1 (kaa _)).trans (zi.below hH (kaa _))).trans (zi.alloc _ _ _)) ((HP2.out.2.below hH (kaa _)).below (zg wH _) (kaa _)) jy jv ((hT3.mono (by have := hX0.size; omega)).calm (zi.alloc _ _ _))
       ·exact ((HB2.out.2.trans (hH.mono hs2)).alloc (by have := hH.size; omega) _).grown jy (by have := hH.size; simp; omega) (HP2.out.2).base
      clear jv jy jQ;go_wp2;go_roundw
      case rel => exact ⟨k + 1, by omega, by go_num, HF⟩
      case measure => simp [intOf]; omega
   ·rw [hin, if_pos rfl, List.append_nil] at HE
    have HF : Q (zm w2 w1.heap.size (G av nv cv) (zeg (d, l, dec, hd) (hs.take (k + 1))) ∧ Z w1.heap.size w1 w2) := ⟨by rw [HE.out]; exact HM0.out.below HB2.out.1, HB2.out.2⟩;clear c1 c3 d0 hb2 hin hBl hBk2;go_wp2;go_roundw
    case rel => exact ⟨k + 1, by omega, by go_num, HF⟩
    case measure => simp [intOf]; omega
  ·have HF : Q (zm wr w1.heap.size u3 (zba (d, l, dec, hd)) ∧ Z w1.heap.size w1 wr) := by
    have := hR.out;rwa [List.take_of_length_le (by have := HR.out.2.2.2.2.2; omega), HAll.out] at this
   clear hR;go_wp2;go_ret;exact ⟨_, rfl, HF.out.1.mono HR.out.2.2.1.size, HR.out.2.2.1.trans (HF.out.2.mono HR.out.2.2.1.size)⟩
theorem zp3 {α β : Type} {X : List α} {k : Nat} (h : k < X.length) (f : α → β) : (X.take (k + 1)).map f = (X.take k).map f ++ [f X[k]] := by rw [zax h, List.map_append]; rfl
theorem zm.app {w w2 w4 : World} {base : Nat} {X jz : List XM} {ms zs : List Q4} {v v4 : Value} (hX : X.map zde = ms) (hT : ∀ y ∈ X, zam base w y.2.2.2.1.1 y.2.2.2.2) (hC : zi 90 w w2) (hO : zd 25 4 zcf w2 base v X) (hg : w2.grownBy w4 v.ownBlock) (h4 : zd 25 4 zcf w4 base v4 (X ++ jz)) (hZ : jz.map zde = zs) (hx : ∀ y ∈ jz, zam base w2 y.2.2.2.1.1 y.2.2.2.2) : zm w4 base v4 (ms ++ zs) := by
 have hC2 : zi 90 w2 w4 := zi.grown hg (hO.grownT (by decide));refine ⟨X ++ jz, h4, by rw [List.map_append, hX, hZ], fun y hy => ?_⟩;rcases List.mem_append.1 hy with hy | hy
 ·exact ((hT y hy).calm hC).calm hC2
 ·exact (hx y hy).calm hC2
theorem zgk (o : O4) : (zba o).length ≤ 3 := by rw [← zmh]; exact Nat.le_trans (zlh _ _) (zee _)
theorem zgn (o : O4) : (zbc o).length ≤ 3 := by unfold zbc; rw [List.length_map]; exact zee _
theorem zf9 {f : O4 → List Q4} (hf : ∀ o, (f o).length ≤ 3) : ∀ (O : List O4), (O.flatMap f).length ≤ 3 * O.length
 | [] => by simp
 | o :: t => by
  have ih := zf9 hf t;have := hf o;rw [List.flatMap_cons, List.length_append, List.length_cons];omega
theorem zlt {f : O4 → List Q4} {O : List O4} {k : Nat} (h : k < O.length) : (O.take (k + 1)).flatMap f = (O.take k).flatMap f ++ f O[k] := by rw [zax h, List.flatMap_append]; simp
theorem zk5 (d : Int) (pa : Option Addr) (np pc : Nat) (l : List P3) (dec : Bool) (ha : Option Addr) (nh hc : Nat) (hd : List Int) (w : World) (hnp : np = l.length) (hl : l.length ≤ 4) (hp : zai w pa l) :
  Calls Tryz.prog 50 #[.agg #[E J d, G pa np pc, .bool dec, G ha nh hc]] w fun e w' => ∃ v', e = .returned v' ∧ zm w' w.heap.size v' (zbc (d, l, dec, hd)) ∧ Z w.heap.size w w' := by
 have HN := zC hnp hl hp;clear hnp hl hp;have hb0 := zg w (T #[E J d, G pa np pc, .bool dec, G ha nh hc] 58);have hN0 : Blk (w.alloc (T #[E J d, G pa np pc, .bool dec, G ha nh hc] 58)) w.heap.size #[E J d, G pa np pc, .bool dec, G ha nh hc] 58 := Blk.new _ _ _;go_enter Tryz.func50, Tryz.ntmps50
 go_wp2_with fail
 generalize w.alloc (T #[E J d, G pa np pc, .bool dec, G ha nh hc] 58) = W at *;refine (zg3 pa l pc np W HN.out.1 HN.out.2.1 (HN.out.2.2.below hb0)).mono ?_;rintro e w1 ⟨hv, rfl, hoI, hb1⟩;rw [zf6] at hoI;have hHL := zee l;have HAll : Q ((zu l).map (fun n => ((5, d, n, []) : Q4)) = zbc (d, l, dec, hd)) := rfl;generalize zu l = hs at *;obtain ⟨ga, gn, gc, rfl⟩ := hoI.own.slice zal;have j8 := hoI.own.at zal;have hgn := j8.2.1;have HR := zD j8.1 (hN0.below hb1 hN0.lt) (hb0.trans (hb1.mono hb0.size)) hgn;have hgn3 : gn ≤ 3 := by omega
 clear hoI j8 hb1 hb0 hN0 hgn hHL;go_wp2;go_loopw [3, 10] (fun v i w' => ∃ k : Nat, k ≤ gn ∧ i = E J k ∧ Q (zm w' w1.heap.size v ((hs.take k).map (fun n => ((5, d, n, []) : Q4))) ∧ Z w1.heap.size w1 w')) (fun _ i _ => gn - (intOf i).toNat)
 case atStart => exact ⟨0, Nat.zero_le _, rfl, zm.nil _ _, Below.refl _ _⟩
 case round =>
  obtain ⟨k, hk, rfl, hR⟩ := hrel;by_cases hlt : k < gn
  ·have hkh : k < hs.length := by have := HR.out.2.2.2; omega
   obtain ⟨hM, hbw⟩ := hR.out;have HE : Q ((hs.take (k + 1)).map (fun n => ((5, d, n, []) : Q4)) = (hs.take k).map (fun n => ((5, d, n, []) : Q4)) ++ [(5, d, hs[k], [])]) := zp3 hkh _;have hml : ((hs.take k).map (fun n => ((5, d, n, []) : Q4))).length ≤ k := by simp; omega
   generalize (hs.take k).map (fun n => ((5, d, n, []) : Q4)) = ms at *;obtain ⟨X, hXl, hO, hX, hT⟩ := hM.len;obtain ⟨av, nv, cv, rfl⟩ := hO.slice zby
   have hBk := HR.out.2.1.below hbw HR.out.2.1.lt;have c0 := hBk.cell 0;simp only [List.getElem?_toArray, List.getElem?_cons_zero] at c0
   have hBl := hBk.lt;rcases HR.out.1.below hbw with h0 | ⟨g, o, rfl, hg, hcs⟩
   ·rw [h0] at hkh; simp at hkh
   have d0 := hcs k hkh 0 _ rfl;simp only [Nat.mul_one, Nat.add_zero] at d0
   have HW := zD hO hX hT hbw;have hX3 : X.length ≤ 3 := by omega
   have hsz := hbw.size;clear hR hM hO hX hT hBk hcs hml hXl hbw;generalize hs[k] = x at *;go_wp2_with (at_builtin; refine zbk zby oneM Tryz.underlying41 zfr rfl (by decide) _ rfl _ _ rfl w1.heap.size _ X rfl (HW.out.1.below (zg wr _) (kaa _)) (some ⟨wr.heap.size, 0, U⟩) 1 1 [(5, d, x, (U, 0), [])] rfl rfl (zk.one (Blk.new wr _ _) rfl) (by unfold maxLen; simp; omega) (by simp; omega) (by simp; omega) ?_; intro a4 n4 c4 w4 jv hn4 jy jQ; clear hn4)
   have HF : Q (zm w4 w1.heap.size (G a4 n4 c4) ((hs.take (k + 1)).map (fun n => ((5, d, n, []) : Q4))) ∧ Z w1.heap.size w1 w4) := by
    refine ⟨?_, ?_⟩
    ·rw [HE.out]
     exact zm.snoc (x := (5, d, x, (U, 0), [])) HW.out.2.1 HW.out.2.2.1 (zi.alloc _ _ _) (HW.out.1.below (zg wr _) (kaa _)) jy jv (Or.inl rfl)
    ·exact (HW.out.2.2.2.alloc hsz _).grown jy (by simp; omega) HW.out.1.base
   clear jv jy jQ c0 d0;go_wp2;go_roundw
   case rel => exact ⟨k + 1, by omega, by go_num, HF⟩
   case measure => simp [intOf]; omega
  ·have HF : Q (zm wr w1.heap.size u3 (zbc (d, l, dec, hd)) ∧ Z w1.heap.size w1 wr) := by
    have := hR.out;rwa [List.take_of_length_le (by have := HR.out.2.2.2; omega), HAll.out] at this
   clear hR;go_wp2;go_ret;exact ⟨_, rfl, HF.out.1.mono HR.out.2.2.1.size, HR.out.2.2.1.trans (HF.out.2.mono HR.out.2.2.1.size)⟩
structure zfw (w : World) (a : Option Addr) (n : Nat) (X : List XO) (O : List O4) : Prop where
 n : n = X.length
 lies : zfo w a X
 says : X.map zw = O
theorem zfw.below {w w' : World} {a : Option Addr} {n : Nat} {X : List XO} {O : List O4} (h : zfw w a n X O) (hb : Z w.heap.size w w') : zfw w' a n X O := ⟨h.n, h.lies.below hb, h.says⟩
def zci (O : List O4) : Prop := O.length ≤ 100000 ∧ ∀ o ∈ O, o.2.1.length ≤ 4 ∧ o.2.2.2.length ≤ 100000
theorem zbd.opns {R : Nat → Prop} {w : World} {la : Option Addr} {nl : Nat} {Y : List XL} {oa : Option Addr} {no : Nat} {X : List XO} {L : List R3} {O : List O4} (F : zbd R w la nl Y oa no X L O) : zfw w oa no X O :=
 ⟨F.on, ⟨F.opn, fun x hx => ⟨(F.oparts x hx).1.1, (F.oparts x hx).2.1⟩⟩, F.osays⟩
theorem znq (la oa : Option Addr) (nl lc no oc : Nat) (bt nx : Int) (X : List XO) (O : List O4) (w : World) (h : zfw w oa no X O) (hf : zci O) :
  Calls Tryz.prog 19 #[.agg #[G la nl lc, E J bt, E J nx, G oa no oc]] w fun e w' => ∃ v', e = .returned v' ∧ zm w' w.heap.size v' (O.flatMap zba) ∧ Z w.heap.size w w' := by
 have HN : Q (zfw w oa no X O ∧ zci O ∧ X.length = O.length) := ⟨h, hf, by rw [← h.says, List.length_map]⟩;have hnl : no ≤ 100000 := by have h1 := h.n; have h2 := hf.1; have h3 := HN.out.2.2; omega
 clear h hf;have hb0 := zg w (T #[G la nl lc, E J bt, E J nx, G oa no oc] 29);go_enter Tryz.func19, Tryz.ntmps19
 go_wp2;generalize w.alloc (T #[G la nl lc, E J bt, E J nx, G oa no oc] 29) = W at *;go_loopw [3, 9] (fun v i w' => ∃ k : Nat, k ≤ no ∧ i = E J k ∧ Q (zm w' w.heap.size v ((O.take k).flatMap zba) ∧ Z w.heap.size w w')) (fun _ i _ => no - (intOf i).toNat)
 case atStart => exact ⟨0, Nat.zero_le _, rfl, zm.nil _ _, hb0⟩
 case round =>
  obtain ⟨k, hk, rfl, hR⟩ := hrel;by_cases hlt : k < no
  ·have hkX : k < X.length := by have := HN.out.1.n; omega
   have hkO : k < O.length := by have := HN.out.2.2; omega
   obtain ⟨hM, hbw⟩ := hR.out;have HE : Q ((O.take (k + 1)).flatMap zba = (O.take k).flatMap zba ++ zba O[k]) := zlt hkO;have hml : ((O.take k).flatMap zba).length ≤ 300000 := by have h1 := zf9 zgk (O.take k); rw [List.length_take] at h1; omega
   have hsz := hbw.size;generalize (O.take k).flatMap zba = ms at *;obtain ⟨jz, hZl, hO, hZ, hT⟩ := hM.len;obtain ⟨av, nv, cv, rfl⟩ := hO.slice zby
   obtain ⟨g, o, rfl, hg, d0, d1, d2, d3, hq⟩ := (HN.out.1.lies.below hbw).get hkX
   have hOk : O[k] = zw X[k] := by
    have : O = X.map zw := HN.out.1.says.symm;subst this;rw [List.getElem_map]
   have hfk := HN.out.2.1.2 O[k] (List.getElem_mem hkO);rw [hOk] at hfk HE;generalize X[k] = x at *;obtain ⟨dd, ⟨⟨pa, pc⟩, l⟩, dec, ⟨ha, hc⟩, hd⟩ := x;simp only [zw] at d0 d1 d2 d3 hq hfk HE
   have HW : Q (zd 25 4 zcf wr w.heap.size (G av nv cv) jz ∧ jz.map zde = ms ∧ (∀ x ∈ jz, zam w.heap.size wr x.2.2.2.1.1 x.2.2.2.2) ∧ Z w.heap.size w wr ∧ zai wr pa l ∧ zk 1 zq wr ha hd ∧ l.length ≤ 4 ∧ hd.length ≤ 100000) := ⟨hO, hZ, hT, hbw, hq.1, hq.2, hfk.1, hfk.2⟩;have HLL : ∃ ln hn, Q (l.length = ln ∧ hd.length = hn) := ⟨_, _, rfl, rfl⟩;obtain ⟨ln, hn, HLL⟩ := HLL;rw [HLL.out.1] at d1;rw [HLL.out.2] at d3;have hZ3 : jz.length ≤ 300000 := by omega
   clear hR hM hO hZ hT hbw hq hfk hOk hkO hkX hml hZl;go_wp2_with fail
   have hbA := zg wr (T #[E J dd, G pa ln pc, .bool dec, G ha hn hc] 58);have hsA : (wr.alloc (T #[E J dd, G pa ln pc, .bool dec, G ha hn hc] 58)).heap.size = wr.heap.size + 1 := by simp
   generalize wr.alloc (T #[E J dd, G pa ln pc, .bool dec, G ha hn hc] 58) = A at *;refine (zjo dd pa ln pc l dec ha hn hc hd A HLL.out.1.symm HW.out.2.2.2.2.2.2.1 (HW.out.2.2.2.2.1.below hbA) HLL.out.2.symm (by have := HW.out.2.2.2.2.2.2.2; omega) (HW.out.2.2.2.2.2.1.below hbA)).mono ?_;rintro e w2 ⟨v2, rfl, hM2, hb2⟩;have hml2 := zgk (dd, l, dec, hd);obtain ⟨zX, hUl, hU, hUs, hUT⟩ := hM2.len;obtain ⟨a2, n2, c2, rfl⟩ := hU.slice zby
   have hUr := hU.at zby
   have HU := zE hUs hUT hUr.2.1 hUr.1 (hbA.trans (hb2.mono (by omega)));have hU3 : zX.length ≤ 3 := by omega
   have hs2 : wr.heap.size + 1 ≤ w2.heap.size := by have := hb2.size; omega
   clear hM2 hU hUs hUT hUr hb2 hbA hUl hml2 d0 d1 d2 d3;go_wp2_with (at_builtin; refine zbk zby oneM Tryz.underlying41 zfr rfl (by decide) _ rfl _ _ rfl w.heap.size _ jz rfl (HW.out.1.below HU.out.2.2.2.2 (kaa _)) a2 n2 c2 zX rfl HU.out.2.2.1 HU.out.2.2.2.1 (by unfold maxLen; omega) (by omega) (by omega) ?_; intro a4 n4 c4 w4 jv hn4 jy jQ; clear hn4)
   have HF : Q (zm w4 w.heap.size (G a4 n4 c4) ((O.take (k + 1)).flatMap zba) ∧ Z w.heap.size w w4) := by
    refine ⟨?_, ?_⟩
    ·rw [HE.out]
     exact zm.app HW.out.2.1 HW.out.2.2.1 (zi.below HU.out.2.2.2.2 (kaa _)) (HW.out.1.below HU.out.2.2.2.2 (kaa _)) jy jv HU.out.1 (fun y hy => (HU.out.2.1 y hy).mono (by omega))
    ·exact (HW.out.2.2.2.1.trans (HU.out.2.2.2.2.mono hsz)).grown jy (by omega) HW.out.1.base
   clear jv jy jQ;go_wp2;go_roundw
   case rel => exact ⟨k + 1, by omega, by go_num, HF⟩
   case measure => simp [intOf]; omega
  ·have HF : Q (zm wr w.heap.size u3 (O.flatMap zba) ∧ Z w.heap.size w wr) := by
    have := hR.out;rwa [List.take_of_length_le (by have h1 := HN.out.1.n; have h2 := HN.out.2.2; omega)] at this
   clear hR;go_wp2;go_ret;exact ⟨_, rfl, HF.out.1, HF.out.2⟩
end Go.Proofs.YtpcnlifmkhagkaaGreat
