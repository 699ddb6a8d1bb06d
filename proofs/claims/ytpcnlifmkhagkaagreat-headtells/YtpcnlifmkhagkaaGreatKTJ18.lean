import Derived.Test.YtpcnlifmkhagkaaGreatKTJ17
set_option maxRecDepth 20000
set_option maxHeartbeats 20000000
namespace Go.Proofs.YtpcnlifmkhagkaaGreat
open Go.RowKit
open Go.Value renaming slice → G, int → E
open Go.IntKind renaming i64 → J
open _root_.Option renaming none → U
open Go.Obj renaming cells → T
open Go.RowKit renaming Hid → Q, Below → Z
open Go.World renaming setCell → r
open _root_.List renaming getElem_mem → kaa, getElem?_toArray → kab, getElem?_cons_zero → kac, getElem_set_self → kae, getElem?_cons_succ → kag, singleton_append → kai, eraseIdx_eq_take_drop_succ → kaj
open _root_.Nat renaming le_refl → kad
open Go.Value renaming ownBlock → kaf
open _root_.Option renaming toList_some → kah
attribute [local go_sem ↓] Go.wp_at_zero Go.wp_at_succ
def zgq (w' w'' : World) (N : Nat) (m : Q4) : Prop :=
 ∃ (a : Option Addr) (n c : Nat), n = m.2.2.2.length ∧ Blk w'' N #[E J m.1, E J m.2.1, E J m.2.2.1, G a n c] 25 ∧ zai w'.heap.size w'' a m.2.2.2 ∧ zf (fun q => q = N) w' w''
theorem zm0 (F : Nat) (cap1 : Array Value) (hF : zfb F) (f : Int → Q4) (dd : Int) (o1 o2 o3 : Value) (ga : Option Addr) (gn gc : Nat) (hs : List Int) (w : World) (hgn : gn = hs.length) (hsl : hs.length ≤ 100000) (hr : zi 1 zu w ga hs) (hl : ∀ x ∈ hs, (f x).2.2.2.length ≤ 1000)
  (hf : ∀ x ∈ hs, ∀ w' N, Z w.heap.size w w' → w.heap.size ≤ N → Blk w' N #[E J 0, E J dd, E J x, G U 0 0] 25 → Calls Tryz.prog F (#[.pointer (some ⟨N, 0, U⟩)] ++ cap1) w' fun e w'' => e = .returned (.tuple #[]) ∧ zgq w' w'' N (f x)) :
  Calls Tryz.prog 77 #[.agg #[E J dd, o1, o2, o3], G ga gn gc, .func (.func F) #[] cap1] w fun e w' => ∃ v', e = .returned v' ∧ zm w' w.heap.size v' (hs.map f) ∧ Z w.heap.size w w' := by
 have hb0 := zh w (T #[E J dd, o1, o2, o3] 58);have hbx : Blk (w.alloc (T #[E J dd, o1, o2, o3] 58)) w.heap.size #[E J dd, o1, o2, o3] 58 := Blk.new _ _ _;have HG := zD hgn hr hl hf;have hgl : gn ≤ 100000 := by omega
 clear hgn hr hl hf;go_enter Tryz.func77, Tryz.ntmps77
 go_upto_region 2 with fail
 generalize w.alloc (T #[E J dd, o1, o2, o3] 58) = V at *;have HV := zB hb0 hbx;clear hb0 hbx;go_wp2;go_loopw [7, 13] (fun v i w' => ∃ k : Nat, k ≤ gn ∧ i = E J k ∧ Q (zm w' w.heap.size v ((hs.take k).map f) ∧ Z w.heap.size w w' ∧ Blk w' w.heap.size #[E J dd, o1, o2, o3] 58)) (fun _ i _ => gn - (intOf i).toNat)
 case atStart => exact ⟨0, Nat.zero_le _, rfl, zm.nil _ _, HV.out⟩
 case round =>
  obtain ⟨k, hk, rfl, hH⟩ := hrel;obtain ⟨zX, hU, hUs, hUT⟩ := hH.out.1;obtain ⟨av, nv, cv, rfl⟩ := hU.slice zbu;have HU : Q (za 25 4 zb3 wr w.heap.size (G av nv cv) zX ∧ zX.map zce = (hs.take k).map f ∧ (∀ x ∈ zX, zai w.heap.size wr x.2.2.2.1.1 x.2.2.2.2) ∧ zX.length ≤ k) := ⟨hU, hUs, hUT, by rw [← List.length_map (f := zce), hUs, List.length_map, List.length_take]; omega⟩;clear hU hUs hUT;by_cases hlt : k < gn
  ·have hkX : k < hs.length := by have := HG.out.1; omega
   obtain ⟨b, o, rfl, hbl, d0⟩ : ∃ b o, ga = some ⟨b, o, U⟩ ∧ b < wr.heap.size ∧ wr.cell? ⟨b, o + k, U⟩ = some (E J hs[k]) := by
    rcases HG.out.2.1.below hH.out.2.1 with h | ⟨b, o, h, _⟩
    ·rw [h] at hkX; simp at hkX
    ·subst h
     have h2 := zht (HG.out.2.1.below hH.out.2.1) hkX;exact ⟨b, o, rfl, h2.1, h2.2⟩
   have HT : Q ((hs.take (k + 1)).map f = (hs.take k).map f ++ [f hs[k]]) := by show _ = _; rw [zav hkX, List.map_append]; rfl
   have hfx := HG.out.2.2.2 _ (kaa hkX);have hlx := HG.out.2.2.1 _ (kaa hkX);generalize hs[k] = x at *;generalize hq : f x = q at *;clear hq;have HQ := zA hfx;clear hfx;obtain ⟨q1, q2, q3, q4⟩ := q;obtain ⟨c0, -, -, -⟩ := hH.out.2.2.cells4;have lc := hH.out.2.2.lt;go_upto_region 6 with fail
   have hbA := zh wr (T #[E J 0, E J dd, E J x, G U 0 0] 25);have HA : Q (Z wr.heap.size wr (wr.alloc (T #[E J 0, E J dd, E J x, G U 0 0] 25)) ∧ Blk (wr.alloc (T #[E J 0, E J dd, E J x, G U 0 0] 25)) wr.heap.size #[E J 0, E J dd, E J x, G U 0 0] 25 ∧ Z w.heap.size w wr) := ⟨hbA, Blk.new _ _ _, hH.out.2.1⟩;have hsA : wr.heap.size < (wr.alloc (T #[E J 0, E J dd, E J x, G U 0 0] 25)).heap.size := by simp
   clear hbA d0 c0 lc;generalize wr.alloc (T #[E J 0, E J dd, E J x, G U 0 0] 25) = A at *;have HC := HQ.out A wr.heap.size (HA.out.2.2.trans (HA.out.1.mono HA.out.2.2.size)) HA.out.2.2.size HA.out.2.1;go_wp2_with fail
   rw [hF.out, Oper.upon_enter];refine HC.mono ?_;rintro e w2 ⟨rfl, pa, pn, pc, hpn, hM, hP, hK⟩;have hb2 := HA.out.1.trans (hK.below (Nat.le_of_lt hsA) (fun b hb => by subst hb; exact kad _));have H2 : Q (Blk w2 wr.heap.size #[E J q1, E J q2, E J q3, G pa pn pc] 25 ∧ zai A.heap.size w2 pa q4 ∧ Z wr.heap.size wr w2 ∧ pn = q4.length ∧ Blk w2 w.heap.size #[E J dd, o1, o2, o3] 58) := ⟨hM, hP, hb2, hpn, hH.out.2.2.below hb2 hH.out.2.2.lt⟩;have HH := zA hH.out.2.1;have hss := hb2.size;have hwr := HH.out.size;clear HC hM hP hK hb2 hH hpn;obtain ⟨b0, b1, b2, b3⟩ := H2.out.1.cells4;have lb := H2.out.1.lt;have hUl : zX.length ≤ 100000 := by have := HU.out.2.2.2; omega
   go_wp2_with (at_builtin; refine zbi zbu oneM Tryz.underlying41 zfl rfl (by decide) _ rfl _ _ rfl w.heap.size _ zX rfl ((HU.out.1.below H2.out.2.2.1 (kad _)).below (zh w2 _) (kad _)) (some ⟨w2.heap.size, 0, U⟩) 1 1 [(q1, q2, q3, (pa, pc), q4)] rfl rfl (zi.one (Blk.new w2 _ _) (by simp [zb3, H2.out.2.2.2.1])) (by unfold maxLen; simp; omega) (by simp; omega) (by simp; omega) ?_; intro a4 n4 c4 w4 jy hn4 jq jw; clear hn4 jw)
   have hbA2 := zh w2 (T #[E J q1, E J q2, E J q3, G pa pn pc] 25);have hoA := (HU.out.1.below H2.out.2.2.1 (kad _)).below hbA2 (kad _)
   have HF : Q (zm w4 w.heap.size (G a4 n4 c4) ((hs.take k).map f ++ [(q1, q2, q3, q4)]) ∧ Z w.heap.size w w4 ∧ Blk w4 w.heap.size #[E J dd, o1, o2, o3] 58) := by
    refine ⟨zm.app HU.out.2.1 HU.out.2.2.1 ((zg.below H2.out.2.2.1 (kad _)).trans (zg.below hbA2 (kad _))) hoA jq jy rfl (fun y hy => ?_), ?_, ?_⟩
    ·rw [List.mem_singleton.1 hy]
     exact (H2.out.2.1.mono (by omega)).calm (zg.below hbA2 (kad _))
    ·exact (((HH.out.trans (H2.out.2.2.1.mono hwr)).trans (hbA2.mono (by omega)))).grown jq (by simp; omega) (fun k hk => hoA.base _ hk)
    ·exact (H2.out.2.2.2.2.below hbA2 H2.out.2.2.2.2.lt).keptT jq (hoA.grownT (by decide))
   clear hbA2 hoA jy jq b0 b1 b2 b3 lb;go_wp2;go_roundw
   case rel => exact ⟨k + 1, by omega, by go_num, by rw [HT.out]; exact HF.out⟩
   case measure => simp [intOf]; omega
  ·have hT : hs.take k = hs := List.take_of_length_le (by have := HG.out.1; omega)
   rw [hT] at hH;have HF := zB hH.out.1 hH.out.2.1;clear hH hT;go_wp2;go_ret;exact ⟨_, rfl, HF.out.1, HF.out.2⟩
theorem entersAb : zfb 79 := fun _ _ => rfl
theorem entersAs : zfb 81 := fun _ _ => rfl
theorem zpf (N : Nat) (dd x : Int) (w : World) (hb : Blk w N #[E J 0, E J dd, E J x, G U 0 0] 25) :
  Calls Tryz.prog 79 #[.pointer (some ⟨N, 0, U⟩)] w fun e w' => e = .returned (.tuple #[]) ∧ zgq w w' N (5, dd, x, []) := by
 have HF : Q (zgq w (r w ⟨N, 0, U⟩ (E J 5)) N (5, dd, x, [])) := ⟨none, 0, 0, rfl, hb.set 0 _, Or.inl rfl, zf.setCells (R := fun q => q = N) rfl [E J 5] 0 w (zf.refl _ _)⟩;obtain ⟨b0, -, -, -⟩ := hb.cells4;have f0 := hb.free 0;have lb := hb.lt;clear hb;go_enter Tryz.func79, Tryz.ntmps79
 go_wp2;exact bodyPost_end (v := .tuple #[]) (results_none rfl _ _ _) rfl ⟨rfl, HF.out⟩
theorem ofB_len (l : List P3) (x : Int) : (ofB l x).length ≤ l.length := List.length_filter_le _ _
theorem asks1_any (b N : Nat) (dd : Int) (pa : Option Addr) (ln pc : Nat) (l : List P3) (dec : Bool) (ha : Option Addr) (hn hc : Nat) (x : Int) (w : World) (ho : Blk w b #[E J dd, G pa ln pc, .bool dec, G ha hn hc] 58) (hb : Blk w N #[E J 0, E J dd, E J x, G U 0 0] 25) (hne : b ≠ N) (hln : ln = l.length) (h4 : l.length ≤ 4) (hp : zz (fun q => q = N) w pa l) :
  Calls Tryz.prog 81 #[.pointer (some ⟨N, 0, U⟩), .pointer (some ⟨b, 0, U⟩)] w fun e w' => e = .returned (.tuple #[]) ∧ zgq w w' N (if dec = true then (4, dd, x, []) else (1, dd, x, ofB l x)) := by
 have hk1 : zf (fun q => q = N) w (r w ⟨N, 0, U⟩ (E J 1)) := zf.setCells (R := fun q => q = N) rfl [E J 1] 0 w (zf.refl _ _);have ho1 : Blk (r w ⟨N, 0, U⟩ (E J 1)) b #[E J dd, G pa ln pc, .bool dec, G ha hn hc] 58 := ho.setOther (a := ⟨N, 0, U⟩) (by simpa using hne) _;have hb1 : Blk (r w ⟨N, 0, U⟩ (E J 1)) N #[E J 1, E J dd, E J x, G U 0 0] 25 := hb.set 0 _;have hp1 := (hp.keep hk1).1;obtain ⟨b0, b1, b2, b3⟩ := hb.cells4;have f0 := hb.free 0;have lb := hb.lt;have HQ := zE hln h4 hp1 hb1 hk1;have HO := zA ho1;clear ho hb hln h4 hp hk1 ho1 hb1 hp1;go_enter Tryz.func81, Tryz.ntmps81
 go_upto_region 1 with fail
 clear b0 b1 b2 b3 f0 lb;generalize r w ⟨N, 0, U⟩ (E J 1) = W1 at *;obtain ⟨o0, o1, o2, o3⟩ := HO.out.cells4;obtain ⟨b0, b1, b2, b3⟩ := HQ.out.2.2.2.1.cells4;have f0 := HQ.out.2.2.2.1.free 0;have lo := HO.out.lt;have lb := HQ.out.2.2.2.1.lt
 cases dec with
 | true =>
  have HF : Q (zgq w (r W1 ⟨N, 0, U⟩ (E J 4)) N (4, dd, x, [])) := ⟨none, 0, 0, rfl, HQ.out.2.2.2.1.set 0 _, Or.inl rfl, HQ.out.2.2.2.2.trans (zf.setCells (R := fun q => q = N) rfl [E J 4] 0 W1 (zf.refl _ _))⟩;go_wp2;exact bodyPost_ret (v := .tuple #[]) (results_none rfl _ _ _) rfl ⟨rfl, HF.out⟩
 | false =>
  have hX1 : Z W1.heap.size W1 W1.drew := (Below.refl _ _).drew;have HK : Q (∀ w', Z W1.heap.size W1 w' → (w'.cell? ⟨b, 1, U⟩ = some (G pa ln pc) ∧ w'.cell? ⟨N, 2, U⟩ = some (E J x))) := fun w' hb => ⟨(HO.out.below hb HO.out.lt).cell 1, (HQ.out.2.2.2.1.below hb HQ.out.2.2.2.1.lt).cell 2⟩
  go_upto_region 3 with fail
  refine zb9 (S := fun w' => (w'.cell? ⟨b, 1, U⟩ = some (G pa ln pc) ∧ w'.cell? ⟨N, 2, U⟩ = some (E J x))) 10 (by kernel_rfl) (HK.out _ hX1) (fun hHeld => ?_);refine tks 7 [(0, 11), (1, 12), (3, 14), (2, 13), (4, 15), (5, 16), (6, 17)] (b := ?_) rfl (by decide +kernel) (fun _ _ _ _ _ h => h) ?_ hHeld ?_;rotate_left 1
  ·iterate 7 (refine zo.cons (v := ?_) rfl rfl (by rfl) ?_ ?_; rotate_left 1; (intro w h; (try dsimp only at h); go_simp; try with_reducible rfl))
   exact zo.nil
  refine rdy 7 (by kernel_rfl) rfl (fun K hK => ?_);go_simp;(go_at_call 82; refine (of_any x pa l pc ln W1.drew HQ.out.1 HQ.out.2.1 (HQ.out.2.2.1.below hX1)).mono ?_; rintro e w2 ⟨v2, rfl, ho2, hb2⟩; obtain ⟨a5, c5, rfl, hT5, -⟩ := ho2.typed; have hX2 : Z W1.heap.size W1 w2 := hX1.trans (hb2.mono hX1.size); have H2 : Q (zai W1.heap.size w2 a5 (ofB l x) ∧ Blk w2 N #[E J 1, E J dd, E J x, G U 0 0] 25 ∧ Z W1.heap.size W1 w2) := ⟨hT5.mono hX1.size, HQ.out.2.2.2.1.below hX2 HQ.out.2.2.2.1.lt, hX2⟩; clear ho2 hT5 hb2; obtain ⟨m5, hm5⟩ : ∃ m5, Q ((ofB l x).length = m5) := ⟨_, rfl⟩; rw [hm5.out])
  go_wp2_with fail
  refine kgo hK (by decide +kernel) ((HK.out _ hX2)) (fun hHeld => ?_);clear hK K;have n3 := H2.out.2.1.cell 3;have k3 := H2.out.2.1.free 3;have l3 := H2.out.2.1.lt;simp only [kab, kac, kag] at n3
  refine tks 2 [(8, 19), (9, 20)] (b := ?_) rfl (by decide +kernel) (fun _ _ _ _ _ h => h) ?_ hHeld ?_;rotate_left 1
  ·iterate 2 (refine zo.cons (v := ?_) rfl rfl (by rfl) ?_ ?_; rotate_left 1; (intro w h; (try dsimp only at h); go_simp; try with_reducible rfl))
   exact zo.nil
  refine rdy 10 (by kernel_rfl) rfl (fun K hK => ?_);go_simp;refine za5 hK (by decide +kernel) ?_;clear hK K hHeld;refine zbd (by kernel_rfl) ?_ _
  have HF : Q (zgq w (r w2 ⟨N, 3, U⟩ (G a5 m5 c5)) N (1, dd, x, ofB l x)) := by
   refine ⟨a5, m5, c5, hm5.out.symm, H2.out.2.1.set 3 _, (H2.out.1.mono HQ.out.2.2.2.2.size).calm (zg.setCell (a := ⟨N, 3, U⟩) H2.out.2.1 (by decide) _), (HQ.out.2.2.2.2.trans (zf.ofBelow H2.out.2.2 (fun k h1 h2 => absurd h2 (by omega)))).trans (zf.setCells (R := fun q => q = N) rfl [G a5 m5 c5] 3 w2 (zf.refl _ _))⟩
  clear n3 k3 l3;generalize r w2 ⟨N, 3, U⟩ (G a5 m5 c5) = W3 at *;go_wp2;exact bodyPost_end (v := .tuple #[]) (results_none rfl _ _ _) rfl ⟨rfl, HF.out⟩
theorem zjz (dd : Int) (pa : Option Addr) (ln pc : Nat) (l : List P3) (dec : Bool) (ha : Option Addr) (hn hc : Nat) (hd : List Int) (w : World) (hln : ln = l.length) (hr : zcj l) (hp : zae w pa l) (hnn : hn = hd.length) (hl : hd.length ≤ 100000) (hi : zi 1 zu w ha hd) :
  Calls Tryz.prog 52 #[.agg #[E J dd, G pa ln pc, .bool dec, G ha hn hc]] w fun e w' => ∃ v', e = .returned v' ∧ zm w' w.heap.size v' (za4 (dd, l, dec, hd)) ∧ Z w.heap.size w w' := by
 have hb0 := zh w (T #[E J dd, G pa ln pc, .bool dec, G ha hn hc] 58);have hbx : Blk (w.alloc (T #[E J dd, G pa ln pc, .bool dec, G ha hn hc] 58)) w.heap.size #[E J dd, G pa ln pc, .bool dec, G ha hn hc] 58 := Blk.new _ _ _;have hsA : w.heap.size < (w.alloc (T #[E J dd, G pa ln pc, .bool dec, G ha hn hc] 58)).heap.size := by simp
 have HQ := zF hln hr hp hnn hl hi;clear hln hr hp hnn hl hi;go_enter Tryz.func52, Tryz.ntmps52
 go_upto_region 1 with fail
 generalize w.alloc (T #[E J dd, G pa ln pc, .bool dec, G ha hn hc] 58) = A at *;have HA := zC hb0 hbx hsA;clear hb0 hbx hsA;have hX1 : Z A.heap.size A A.drew := (Below.refl _ _).drew;have HK : Q (∀ w', Z A.heap.size A w' → (w'.cell? ⟨w.heap.size, 0, U⟩ = some (E J dd) ∧ w'.cell? ⟨w.heap.size, 1, U⟩ = some (G pa ln pc) ∧ w'.cell? ⟨w.heap.size, 2, U⟩ = some (.bool dec) ∧ w'.cell? ⟨w.heap.size, 3, U⟩ = some (G ha hn hc))) := fun w' hb => ⟨(HA.out.2.1.below hb HA.out.2.1.lt).cell 0, (HA.out.2.1.below hb HA.out.2.1.lt).cell 1, (HA.out.2.1.below hb HA.out.2.1.lt).cell 2, (HA.out.2.1.below hb HA.out.2.1.lt).cell 3⟩
 refine zb9 (S := fun w' => (w'.cell? ⟨w.heap.size, 0, U⟩ = some (E J dd) ∧ w'.cell? ⟨w.heap.size, 1, U⟩ = some (G pa ln pc) ∧ w'.cell? ⟨w.heap.size, 2, U⟩ = some (.bool dec) ∧ w'.cell? ⟨w.heap.size, 3, U⟩ = some (G ha hn hc))) 5 (by kernel_rfl) (HK.out _ hX1) (fun hHeld => ?_);refine tks 3 [(0, 3), (1, 4), (3, 6)] (b := ?_) rfl (by decide +kernel) (fun _ _ _ _ _ h => h) ?_ hHeld ?_;rotate_left 1
 ·iterate 3 (refine zo.cons (v := ?_) rfl rfl (by rfl) ?_ ?_; rotate_left 1; (intro w h; (try dsimp only at h); go_simp; try with_reducible rfl))
  exact zo.nil
 refine rdy 2 (by kernel_rfl) rfl (fun K hK => ?_);go_simp;(go_at_call 80; refine (zit dd pa ln pc l dec ha hn hc hd A.drew HQ.out.1 HQ.out.2.1 (HQ.out.2.2.1.below (HA.out.1.trans (hX1.mono HA.out.1.size))) HQ.out.2.2.2.1 HQ.out.2.2.2.2.1 (HQ.out.2.2.2.2.2.below (HA.out.1.trans (hX1.mono HA.out.1.size)))).mono ?_; rintro e w2 ⟨v2, rfl, ho2, hb2⟩; obtain ⟨ga, gn, gc, rfl⟩ := ho2.slice zaf; have hX2 : Z A.heap.size A w2 := hX1.trans (hb2.mono hX1.size); have H2 : Q (zi 1 zu w2 ga ((zr l).filter fun n => !inI hd n) ∧ gn = ((zr l).filter fun n => !inI hd n).length) := ⟨(ho2.at zaf).1, (ho2.at zaf).2.1⟩; clear ho2 hb2)
 go_wp2_with fail
 refine kgo hK (by decide +kernel) ((HK.out _ hX2)) (fun hHeld => ?_);clear hK K;refine rdy 4 (by kernel_rfl) rfl (fun K hK => ?_);go_simp;(go_at_call 77; refine (zm0 81 #[.pointer (some ⟨w.heap.size, 0, U⟩)] entersAs (fun n => if dec = true then (4, dd, n, []) else (1, dd, n, ofB l n)) dd (G pa ln pc) (.bool dec) (G ha hn hc) ga gn gc ((zr l).filter fun n => !inI hd n) w2 H2.out.2 (Nat.le_trans (List.length_filter_le _ _) (Nat.le_trans (zdl l) (by decide))) H2.out.1 (fun x _ => by obtain ⟨_, h4, _, _⟩ := zc5 HQ.out.2.1; have h5 := ofB_len l x; cases dec <;> simp <;> omega) (fun x _ w' M hb hM hBM => asks1_any w.heap.size M dd pa ln pc l dec ha hn hc x w' ((HA.out.2.1.below hX2 HA.out.2.1.lt).below hb (Nat.lt_of_lt_of_le HA.out.2.1.lt hX2.size)) hBM (by have h1 := HA.out.2.2; have h2 := hX2.size; omega) HQ.out.1 (by obtain ⟨_, h4, _, _⟩ := zc5 HQ.out.2.1; exact h4) ((zz.wide (((zz.wide (R := fun _ => False) (R' := fun q => w.heap.size ≤ q) ⟨HQ.out.2.2.1, Or.inr (fun _ _ h => h)⟩ (fun b hb => Or.inr hb)).below (HA.out.1.trans (hX2.mono HA.out.1.size))).below hb) (fun b hb' => Or.inl (by subst hb'; have h1 := HA.out.1.size; have h2 := hX2.size; omega)))))).mono ?_)
 rintro e w3 ⟨v3, rfl, hM3, hb3⟩;have hX3 := hX2.trans (hb3.mono hX2.size);have HF : Q (zm w3 w.heap.size v3 (za4 (dd, l, dec, hd)) ∧ Z w.heap.size w w3) := ⟨hM3.mono (by have h1 := HA.out.1.size; have h2 := hX2.size; omega), HA.out.1.trans (hX3.mono HA.out.1.size)⟩;clear hM3 hb3;go_wp2_with fail
 refine kgo hK (by decide +kernel) ((HK.out _ hX3)) (fun hHeld => ?_);clear hK K;refine rdy 5 (by kernel_rfl) rfl (fun K hK => ?_);go_simp;refine za5 hK (by decide +kernel) ?_;clear hK K hHeld;refine zbd (by kernel_rfl) ?_ _;go_wp2;go_ret;exact ⟨_, rfl, HF.out.1, HF.out.2⟩
theorem zkr (dd : Int) (pa : Option Addr) (ln pc : Nat) (l : List P3) (dec : Bool) (ha : Option Addr) (hn hc : Nat) (hd : List Int) (w : World) (hln : ln = l.length) (hr : zcj l) (hp : zae w pa l) :
  Calls Tryz.prog 47 #[.agg #[E J dd, G pa ln pc, .bool dec, G ha hn hc]] w fun e w' => ∃ v', e = .returned v' ∧ zm w' w.heap.size v' (za3 (dd, l, dec, hd)) ∧ Z w.heap.size w w' := by
 have hb0 := zh w (T #[E J dd, G pa ln pc, .bool dec, G ha hn hc] 58);have hbx : Blk (w.alloc (T #[E J dd, G pa ln pc, .bool dec, G ha hn hc] 58)) w.heap.size #[E J dd, G pa ln pc, .bool dec, G ha hn hc] 58 := Blk.new _ _ _;have hsA : w.heap.size < (w.alloc (T #[E J dd, G pa ln pc, .bool dec, G ha hn hc] 58)).heap.size := by simp
 have HQ := zC hln hr hp;clear hln hr hp;go_enter Tryz.func47, Tryz.ntmps47
 go_upto_region 1 with fail
 generalize w.alloc (T #[E J dd, G pa ln pc, .bool dec, G ha hn hc] 58) = A at *;have HA := zC hb0 hbx hsA;clear hb0 hbx hsA;have hX1 : Z A.heap.size A A.drew := (Below.refl _ _).drew;have HK : Q (∀ w', Z A.heap.size A w' → (w'.cell? ⟨w.heap.size, 0, U⟩ = some (E J dd) ∧ w'.cell? ⟨w.heap.size, 1, U⟩ = some (G pa ln pc) ∧ w'.cell? ⟨w.heap.size, 2, U⟩ = some (.bool dec) ∧ w'.cell? ⟨w.heap.size, 3, U⟩ = some (G ha hn hc))) := fun w' hb => ⟨(HA.out.2.1.below hb HA.out.2.1.lt).cell 0, (HA.out.2.1.below hb HA.out.2.1.lt).cell 1, (HA.out.2.1.below hb HA.out.2.1.lt).cell 2, (HA.out.2.1.below hb HA.out.2.1.lt).cell 3⟩
 refine zb9 (S := fun w' => (w'.cell? ⟨w.heap.size, 0, U⟩ = some (E J dd) ∧ w'.cell? ⟨w.heap.size, 1, U⟩ = some (G pa ln pc) ∧ w'.cell? ⟨w.heap.size, 2, U⟩ = some (.bool dec) ∧ w'.cell? ⟨w.heap.size, 3, U⟩ = some (G ha hn hc))) 5 (by kernel_rfl) (HK.out _ hX1) (fun hHeld => ?_);refine tks 3 [(0, 3), (1, 4), (2, 5)] (b := ?_) rfl (by decide +kernel) (fun _ _ _ _ _ h => h) ?_ hHeld ?_;rotate_left 1
 ·iterate 3 (refine zo.cons (v := ?_) rfl rfl (by rfl) ?_ ?_; rotate_left 1; (intro w h; (try dsimp only at h); go_simp; try with_reducible rfl))
  exact zo.nil
 refine rdy 3 (by kernel_rfl) rfl (fun K hK => ?_);go_simp;(go_at_call 78; obtain ⟨h1, h4, -, -⟩ := zc5 HQ.out.2.1; refine (znf pa l pc ln A.drew HQ.out.1 h4 h1 (HQ.out.2.2.below (HA.out.1.trans (hX1.mono HA.out.1.size)))).mono ?_; rintro e w2 ⟨v2, rfl, ho2, hb2⟩; rw [HQ.out.2.1.houses] at ho2; obtain ⟨ga, gn, gc, rfl⟩ := ho2.own.slice zaf; have hX2 : Z A.heap.size A w2 := hX1.trans (hb2.mono hX1.size); have H2 : Q (zi 1 zu w2 ga (zr l) ∧ gn = (zr l).length) := ⟨(ho2.own.at zaf).1, (ho2.own.at zaf).2.1⟩; clear ho2 hb2 h1 h4)
 go_wp2_with fail
 refine kgo hK (by decide +kernel) ((HK.out _ hX2)) (fun hHeld => ?_);clear hK K;refine rdy 4 (by kernel_rfl) rfl (fun K hK => ?_);go_simp;(go_at_call 77; refine (zm0 79 #[] entersAb (fun n => (5, dd, n, [])) dd (G pa ln pc) (.bool dec) (G ha hn hc) ga gn gc (zr l) w2 H2.out.2 (Nat.le_trans (zdl l) (by decide)) H2.out.1 (fun x _ => by simp) (fun x _ w' M hb hM hBM => zpf M dd x w' hBM)).mono ?_)
 rintro e w3 ⟨v3, rfl, hM3, hb3⟩;have hX3 := hX2.trans (hb3.mono hX2.size);have HF : Q (zm w3 w.heap.size v3 (za3 (dd, l, dec, hd)) ∧ Z w.heap.size w w3) := ⟨hM3.mono (by have h1 := HA.out.1.size; have h2 := hX2.size; omega), HA.out.1.trans (hX3.mono HA.out.1.size)⟩;clear hM3 hb3;go_wp2_with fail
 refine kgo hK (by decide +kernel) ((HK.out _ hX3)) (fun hHeld => ?_);clear hK K;refine rdy 5 (by kernel_rfl) rfl (fun K hK => ?_);go_simp;refine za5 hK (by decide +kernel) ?_;clear hK K hHeld;refine zbd (by kernel_rfl) ?_ _;go_wp2;go_ret;exact ⟨_, rfl, HF.out.1, HF.out.2⟩
def zd2 (m : Q4) (st : List O4 × List R3 × List Q4 × Bool) (o : O4) : List O4 × List R3 × List Q4 × Bool :=
 if o.1 ≠ m.2.1 ∨ st.2.2.2 = true then (st.1 ++ [o], st.2.1, st.2.2.1, st.2.2.2) else (st.1 ++ (zv m o).1.toList, (zv m o).2.1, (zv m o).2.2, true)
def zbf (m : Q4) (l : List O4) : List O4 × List R3 × List Q4 × Bool := l.foldl (zd2 m) ([], [], [], false)
theorem hall_take (m : Q4) {l : List O4} {k : Nat} (h : k < l.length) : zbf m (l.take (k + 1)) = zd2 m (zbf m (l.take k)) l[k] := by
 unfold zbf
 rw [zav h, List.foldl_append];rfl
theorem zng (m : Q4) : ∀ (l acc : List O4) (lg : List R3) (s : List Q4), l.foldl (zd2 m) (acc, lg, s, true) = (acc ++ l, lg, s, true)
 | [], acc, lg, s => by simp
 | o :: t, acc, lg, s => by
  rw [List.foldl_cons];have e : zd2 m (acc, lg, s, true) o = (acc ++ [o], lg, s, true) := by unfold zd2; rw [if_pos (Or.inr rfl)]
  rw [e, zng m t];simp
theorem zi9 (m : Q4) : ∀ (l acc : List O4), l.foldl (zd2 m) (acc, [], [], false) = (match zb2 m l with | some x => (acc ++ x.1, x.2.1, x.2.2, true) | none => (acc ++ l, [], [], false))
 | [], acc => by simp [zb2]
 | o :: t, acc => by
  rw [List.foldl_cons];by_cases h : o.1 = m.2.1
  ·have e : zd2 m (acc, [], [], false) o = (acc ++ (zv m o).1.toList, (zv m o).2.1, (zv m o).2.2, true) := by unfold zd2; rw [if_neg (by simp [h])]
   rw [e, zng];simp only [zb2, if_pos h, List.append_assoc]
  ·have e : zd2 m (acc, [], [], false) o = (acc ++ [o], [], [], false) := by unfold zd2; rw [if_pos (Or.inl h)]
   rw [e, zi9 m t];simp only [zb2, if_neg h]
   cases zb2 m t <;> simp
theorem zmh (m : Q4) (l : List O4) (h : (zbf m l).2.2.2 = false) : (zbf m l).2.1 = [] ∧ (zbf m l).2.2.1 = [] := by
 unfold zbf at *
 rw [zi9 m l []] at *
 cases hx : zb2 m l with
 | none => rw [hx] at h; exact ⟨rfl, rfl⟩
 | some x => rw [hx] at h; cases h
theorem head_hall (g : Gh) (m : Q4) : zc g m = (⟨g.log ++ (zbf m g.opn).2.1, g.boot, g.next, (zbf m g.opn).1⟩, if (zbf m g.opn).2.2.2 = true then (zbf m g.opn).2.2.1 else if m.1 = 7 then [(5, m.2.1, m.2.2.1, [])] else []) := by
 unfold zc zbf
 rw [zi9 m g.opn []];cases zb2 m g.opn <;> simp
theorem zdk {m : Q4} {o : O4} (h1 : ¬ (m.1 = 2 ∧ o.2.2.1 = false ∧ (inI (zr o.2.1) m.2.2.1 = true ∧ inI o.2.2.2 m.2.2.1 = false))) (h2 : ¬ (m.1 = 3 ∧ o.2.2.1 = false)) (h3 : ¬ (m.1 = 6 ∧ o.2.2.1 = true ∧ (inI (zr o.2.1) m.2.2.1 = true ∧ inI o.2.2.2 m.2.2.1 = false))) (h4 : ¬ (m.1 = 7 ∧ o.2.2.1 = true)) : zv m o = (some o, [], []) := by
 unfold zv
 rw [if_neg h1, if_neg h2, if_neg h3, if_neg h4]
theorem zlj {m : Q4} {o : O4} (h1 : m.1 = 2 ∧ o.2.2.1 = false ∧ (inI (zr o.2.1) m.2.2.1 = true ∧ inI o.2.2.2 m.2.2.1 = false)) (ha : (o.2.2.2 ++ [m.2.2.1]).length = (zr o.2.1).length) : zv m o = (some (o.1, o.2.1, true, []), [(5, o.1, o.2.1)], za4 (o.1, o.2.1, true, [])) := by
 unfold zv
 rw [if_pos h1, if_pos ha]
theorem zke {m : Q4} {o : O4} (h1 : m.1 = 2 ∧ o.2.2.1 = false ∧ (inI (zr o.2.1) m.2.2.1 = true ∧ inI o.2.2.2 m.2.2.1 = false)) (ha : ¬ (o.2.2.2 ++ [m.2.2.1]).length = (zr o.2.1).length) : zv m o = (some (o.1, o.2.1, false, o.2.2.2 ++ [m.2.2.1]), [], []) := by
 unfold zv
 rw [if_pos h1, if_neg ha]
theorem step_no {m : Q4} {o : O4} (h1 : m.1 = 3) (h2 : o.2.2.1 = false) : zv m o = (U, [], za3 o) := by
 unfold zv
 rw [if_neg (fun h => by have := h.1; omega), if_pos ⟨h1, h2⟩]
theorem znh {m : Q4} {o : O4} (h1 : m.1 = 6 ∧ o.2.2.1 = true ∧ (inI (zr o.2.1) m.2.2.1 = true ∧ inI o.2.2.2 m.2.2.1 = false)) (ha : (o.2.2.2 ++ [m.2.2.1]).length = (zr o.2.1).length) : zv m o = (U, [(6, o.1, [])], []) := by
 unfold zv
 rw [if_neg (fun h => by have := h.1; have := h1.1; omega), if_neg (fun h => by have := h.1; have := h1.1; omega), if_pos h1, if_pos ha]
theorem zlt {m : Q4} {o : O4} (h1 : m.1 = 6 ∧ o.2.2.1 = true ∧ (inI (zr o.2.1) m.2.2.1 = true ∧ inI o.2.2.2 m.2.2.1 = false)) (ha : ¬ (o.2.2.2 ++ [m.2.2.1]).length = (zr o.2.1).length) : zv m o = (some (o.1, o.2.1, true, o.2.2.2 ++ [m.2.2.1]), [], []) := by
 unfold zv
 rw [if_neg (fun h => by have := h.1; have := h1.1; omega), if_neg (fun h => by have := h.1; have := h1.1; omega), if_pos h1, if_neg ha]
theorem zmd {m : Q4} {o : O4} (h1 : m.1 = 7) (h2 : o.2.2.1 = true) : zv m o = (some o, [], [(4, m.2.1, m.2.2.1, [])]) := by
 unfold zv
 rw [if_neg (fun h => by have := h.1; omega), if_neg (fun h => by have := h.1; omega), if_neg (fun h => by have := h.1; omega), if_pos ⟨h1, h2⟩]
theorem zoi (la oa : Option Addr) (nl lc no oc : Nat) (bt nx : Int) (L : List R3) (O : List O4) (Y : List XL) (X : List XO) (mk md mh : Int) (ma : Option Addr) (mn mc : Nat) (ml : List P3) (w : World) (H : zbh (fun _ => False) w la nl Y oa no X L O) (hf : zcf O) (hok : OkL L) (hl : L.length ≤ 400000) (hex : ∃ o ∈ O, o.1 = md) (hr : ∀ o ∈ O, zcj o.2.1) (k2 : ¬ mk = 2) (k3 : ¬ mk = 3) (k6 : ¬ mk = 6) (k7 : ¬ mk = 7) :
  Calls Tryz.prog 24 #[.agg #[G la nl lc, E J bt, E J nx, G oa no oc], .agg #[E J mk, E J md, E J mh, G ma mn mc]] w fun e w' => ∃ v' sv, e = .returned (.tuple #[v', sv]) ∧ (∀ R : Nat → Prop, (∀ b, R b → b < w.heap.size) → zy R w' v' (zc ⟨L, bt, nx, O⟩ (mk, md, mh, ml)).1) ∧ zm w' w.heap.size sv (zc ⟨L, bt, nx, O⟩ (mk, md, mh, ml)).2 ∧ Z w.heap.size w w' := by
 have hb0 : Z w.heap.size w (((w.alloc (T #[G la nl lc, E J bt, E J nx, G oa no oc] 29)).alloc (T #[E J mk, E J md, E J mh, G ma mn mc] 25)).alloc (T #[G U 0 0, E J 0, E J 0, G U 0 0] 29)) := (zaw w (T #[G la nl lc, E J bt, E J nx, G oa no oc] 29) (T #[E J mk, E J md, E J mh, G ma mn mc] 25)).alloc (by simp; omega) _;have h0 : Blk (((w.alloc (T #[G la nl lc, E J bt, E J nx, G oa no oc] 29)).alloc (T #[E J mk, E J md, E J mh, G ma mn mc] 25)).alloc (T #[G U 0 0, E J 0, E J 0, G U 0 0] 29)) w.heap.size #[G la nl lc, E J bt, E J nx, G oa no oc] 29 := ((Blk.new _ _ _).alloc _).alloc _;have hm0 : Blk (((w.alloc (T #[G la nl lc, E J bt, E J nx, G oa no oc] 29)).alloc (T #[E J mk, E J md, E J mh, G ma mn mc] 25)).alloc (T #[G U 0 0, E J 0, E J 0, G U 0 0] 29)) (w.heap.size + 1) #[E J mk, E J md, E J mh, G ma mn mc] 25 := Blk.alloc (zao _ _ _) _;have hs2 : ((w.alloc (T #[G la nl lc, E J bt, E J nx, G oa no oc] 29)).alloc (T #[E J mk, E J md, E J mh, G ma mn mc] 25)).heap.size = w.heap.size + 2 := by simp
 have hz0 : Blk (((w.alloc (T #[G la nl lc, E J bt, E J nx, G oa no oc] 29)).alloc (T #[E J mk, E J md, E J mh, G ma mn mc] 25)).alloc (T #[G U 0 0, E J 0, E J 0, G U 0 0] 29)) (w.heap.size + 2) #[G U 0 0, E J 0, E J 0, G U 0 0] 29 := by rw [← hs2]; exact Blk.new _ _ _
 have hs0 : (((w.alloc (T #[G la nl lc, E J bt, E J nx, G oa no oc] 29)).alloc (T #[E J mk, E J md, E J mh, G ma mn mc] 25)).alloc (T #[G U 0 0, E J 0, E J 0, G U 0 0] 29)).heap.size = w.heap.size + 3 := by simp
 have hnL : nl = L.length := by rw [← H.says, List.length_map]; exact H.ln
 have HG := zE (H.below hb0) hf hok hl hnL;clear H hf hok hl hnL hs2;go_enter Tryz.func24, Tryz.ntmps24
 go_upto_region 1 with fail
 generalize (((w.alloc (T #[G la nl lc, E J bt, E J nx, G oa no oc] 29)).alloc (T #[E J mk, E J md, E J mh, G ma mn mc] 25)).alloc (T #[G U 0 0, E J 0, E J 0, G U 0 0] 29)) = V at *;obtain ⟨x0, x1, x2, x3⟩ := h0.cells4;have l0 := h0.lt;go_wp2_with fail
 refine (zf7 la oa nl lc no oc bt nx Y X L O V HG.out.1 HG.out.2.1 HG.out.2.2.1 (by have := HG.out.2.2.2.1; omega)).mono ?_;rintro e w2 ⟨_, rfl, ⟨a2, n2, c2, Y2, a3, n3, c3, X2, rfl, hO2, hE2⟩, hbw2⟩;have hn2 : n2 = nl := by rw [(hO2.log.1.at za7).2.1, HG.out.2.2.2.2, ← hO2.says, List.length_map]
 subst hn2
 have H1 : Q (HrS w mk md mh (G ma mn mc) bt nx w2.heap.size (w2.alloc (T #[G a2 n2 c2, E J bt, E J nx, G a3 n3 c3] 29)) a2 n2 c2 Y2 L a3 n3 c3 X2 O) := by
  have hbb := zh w2 (T #[G a2 n2 c2, E J bt, E J nx, G a3 n3 c3] 29);have hsz := hbw2.size;exact ⟨(hm0.below hbw2 hm0.lt).below hbb (by omega), (hz0.below hbw2 hz0.lt).below hbb (by omega), Blk.new _ _ _, (hO2.mono (by omega : w.heap.size + 3 ≤ V.heap.size)).below hbb, (hE2.mono (by omega : w.heap.size + 3 ≤ V.heap.size)).below hbb, (hb0.trans (hbw2.mono hb0.size)).trans (hbb.mono (by omega)), by omega⟩
 clear hO2 hE2 hbw2 hb0 hz0 hm0 h0 hs0 x0 x1 x2 x3 l0;go_upto_region 3 with fail
 obtain ⟨N7, hN7⟩ : ∃ N7, N7 = w2.heap.size := ⟨_, rfl⟩;rw [← hN7] at H1;generalize w2.alloc (T #[G a2 n2 c2, E J bt, E J nx, G a3 n3 c3] 29) = A at *;rw [← hN7];clear hN7;obtain ⟨nl, hnl'⟩ : ∃ nl, nl = n2 := ⟨_, rfl⟩;subst hnl';have x3 := H1.out.ob.cell 3;simp only [kab, kac, kag] at x3
 have l0 := H1.out.ob.lt;have hn3 : Q (n3 = X2.length ∧ X2.length ≤ 100000) := ⟨(H1.out.hd.opn.at zaq).2.1, by have h1 := H1.out.hd.osays; have h2 := HG.out.2.1.1; rw [← h1, List.length_map] at h2; exact h2⟩;go_wp2_with fail
 refine (zfy 56 #[.pointer (some ⟨w.heap.size + 1, 0, U⟩)] zge (fun x => x.1 == md) a3 X2 c3 n3 A hn3.out.1 (by have := hn3.out.2; omega) (H1.out.hd.opn.at zaq).1 (fun x _ w' hb => zgf (w.heap.size + 1) mk md mh x.1 (G ma mn mc) _ _ _ w' (H1.out.mb.below hb H1.out.mb.lt))).mono ?_;rintro e w3 ⟨jj, rfl, hidx, hb3⟩;have HX := zA hidx;have H3 : Q (HrS w mk md mh (G ma mn mc) bt nx N7 (w3.alloc (T #[E J jj] 3)) a2 nl c2 Y2 L a3 n3 c3 X2 O ∧ Blk (w3.alloc (T #[E J jj] 3)) w3.heap.size #[E J jj] 3) := ⟨(H1.out.below hb3).below (zh w3 _), Blk.new _ _ _⟩;clear hidx hb3 H1 x3 l0;go_upto_region 4 with fail
 generalize w3.alloc (T #[E J jj] 3) = D at *;have i0 := H3.out.2.cell 0;simp only [kab, kac] at i0
 have li := H3.out.2.lt
 obtain ⟨i, hi, hri, hdi, hlow⟩ : ∃ (i : Nat) (hi : i < X2.length), jj = i ∧ X2[i].1 = md ∧ ∀ j (hj : j < X2.length), j < i → X2[j].1 ≠ md := by
  rcases HX.out with ⟨_, h⟩ | ⟨i, hi, h1, h2, h3⟩
  ·exfalso
   obtain ⟨o, ho, hod⟩ := hex;rw [← H3.out.1.hd.osays] at ho;obtain ⟨x, hx, rfl⟩ := List.mem_map.1 ho;have h2 := h x hx;simp [zw] at h2 hod
   exact h2 hod
  ·exact ⟨i, hi, h1, by simpa using h2, fun j hj hji => by simpa using h3 j hj hji⟩
 subst hri;have hiO : i < O.length := by have h1 := H3.out.1.hd.osays; rw [← h1, List.length_map]; exact hi
 have hOi : O[i] = zw X2[i] := by
  have : O = X2.map zw := H3.out.1.hd.osays.symm;subst this;rw [List.getElem_map]
 have HH : Q (zb2 (mk, md, mh, ml) O = some (O.take i ++ ((zv (mk, md, mh, ml) (zw X2[i])).1.toList ++ O.drop (i + 1)), (zv (mk, md, mh, ml) (zw X2[i])).2.1, (zv (mk, md, mh, ml) (zw X2[i])).2.2) ∧ O = O.take i ++ (zw X2[i] :: O.drop (i + 1)) ∧ O.eraseIdx i = O.take i ++ O.drop (i + 1)) := by
  refine ⟨?_, by rw [← hOi, ← List.drop_eq_getElem_cons hiO, List.take_append_drop], kaj _ _⟩;rw [← hOi]
  exact zgt hiO (by rw [hOi]; exact hdi) (fun j hj hji => by
   have h1 := hlow j (by have h1 := H3.out.1.hd.osays; rw [← h1, List.length_map] at hj; exact hj) hji
   have h2 : O[j] = zw (X2[j]'(by have h1 := H3.out.1.hd.osays; rw [← h1, List.length_map] at hj; exact hj)) := by
    have : O = X2.map zw := H3.out.1.hd.osays.symm;subst this;rw [List.getElem_map]
   rw [h2]
   exact h1)
 have hro := hr O[i] (kaa hiO);rw [hOi] at hro
 obtain ⟨g, ha3⟩ : ∃ g, a3 = some ⟨g, 0, U⟩ := by
  rcases H3.out.1.hd.opn.2 with ⟨hv, h0⟩ | ⟨g, cap', cur, hv, _⟩
  ·exfalso; omega
  ·cases hv; exact ⟨g, rfl⟩
 subst ha3;obtain ⟨hgl, d0, d1, d2, d3⟩ := zew (H3.out.1.hd.opn.at zaq).1 hi;simp only [Nat.zero_add] at d0 d1 d2 d3
 have hop := H3.out.1.hd.op _ (kaa hi);have hin : i < n3 := by rw [hn3.out.1]; exact hi
 obtain ⟨x, hx⟩ : ∃ x, Q (X2[i] = x) := ⟨X2[i], by show _ = _; rfl⟩;rw [hx.out] at d0 d1 d2 d3 hop hro hdi;rw [hx.out] at HH;clear hex hlow hOi;obtain ⟨dd, ⟨⟨pa, pc⟩, l⟩, dec, ⟨ha, hc⟩, hd⟩ := x;simp only [zw] at d0 d1 d2 d3 hop hro hdi HH
 subst hdi;obtain ⟨ln, hn, HLL⟩ : ∃ ln hn, Q (l.length = ln ∧ hd.length = hn) := ⟨_, _, rfl, rfl⟩;rw [HLL.out.1] at d1;rw [HLL.out.2] at d3;have gi : decide ((i : Int) < 0) = false := decide_eq_false (by omega);have x3 := H3.out.1.ob.cell 3;simp only [kab, kac, kag] at x3
 have m0 := H3.out.1.mb.cell 0;simp only [kab, kac] at m0
 have lm := H3.out.1.mb.lt;have lx := H3.out.1.ob.lt;have e2 : (mk == 2) = false := by simpa using k2
 have e3 : (mk == 3) = false := by simpa using k3
 have e6 : (mk == 6) = false := by simpa using k6
 have e7 : (mk == 7) = false := by simpa using k7
 cases dec with
 | true =>
  have HP : Q (zc ⟨L, bt, nx, O⟩ (mk, dd, mh, ml) = (⟨L, bt, nx, O⟩, [])) := by
   show _ = _
   unfold zc
   simp only
   rw [HH.out.1, show zv (mk, dd, mh, ml) (dd, l, true, hd) = (some (dd, l, true, hd), [], []) from zdk (fun h => k2 h.1) (fun h => k3 h.1) (fun h => k6 h.1) (fun h => k7 h.1)];have h := HH.out.2.1;simp only [kah, kai, List.append_nil]
   rw [← h]
  go_upto_region 26 with fail
  clear d0 d1 d2 d3 x3 m0 lm lx i0 li gi;obtain ⟨r0, r1, r2, r3⟩ := (H3.out.1).ob.cells4;obtain ⟨t0, t1, t2, t3⟩ := (H3.out.1).rb.cells4;obtain ⟨y0, y1, y2, y3⟩ := (H3.out.1).rb.free4;have lo := (H3.out.1).ob.lt;have lr := (H3.out.1).rb.lt;obtain ⟨p1, p2, p3⟩ := (H3.out.1).ret;obtain ⟨e0, e1, e2, e3⟩ := p3.cells4;have HF : Q ((∀ R : Nat → Prop, (∀ b, R b → b < w.heap.size) → zy R ((((D.setCell ⟨(w.heap.size + 2), 0, U⟩ (G a2 nl c2)).setCell ⟨(w.heap.size + 2), 1, U⟩ (E J bt)).setCell ⟨(w.heap.size + 2), 2, U⟩ (E J nx)).setCell ⟨(w.heap.size + 2), 3, U⟩ (G (some ⟨g, 0, U⟩) n3 c3)) (.agg #[G a2 nl c2, E J bt, E J nx, G (some ⟨g, 0, U⟩) n3 c3]) (zc ⟨L, bt, nx, O⟩ (mk, dd, mh, ml)).1) ∧ zm ((((D.setCell ⟨(w.heap.size + 2), 0, U⟩ (G a2 nl c2)).setCell ⟨(w.heap.size + 2), 1, U⟩ (E J bt)).setCell ⟨(w.heap.size + 2), 2, U⟩ (E J nx)).setCell ⟨(w.heap.size + 2), 3, U⟩ (G (some ⟨g, 0, U⟩) n3 c3)) w.heap.size (G U 0 0) (zc ⟨L, bt, nx, O⟩ (mk, dd, mh, ml)).2 ∧ Z w.heap.size w ((((D.setCell ⟨(w.heap.size + 2), 0, U⟩ (G a2 nl c2)).setCell ⟨(w.heap.size + 2), 1, U⟩ (E J bt)).setCell ⟨(w.heap.size + 2), 2, U⟩ (E J nx)).setCell ⟨(w.heap.size + 2), 3, U⟩ (G (some ⟨g, 0, U⟩) n3 c3))) := by rw [HP.out]; exact ⟨p1, zm.nil _ _, p2⟩
  clear p1 p2 p3;go_wp2_with fail
  clear r0 r1 r2 r3 t0 t1 t2 t3 y0 y1 y2 y3 lo lr;generalize ((((D.setCell ⟨(w.heap.size + 2), 0, U⟩ (G a2 nl c2)).setCell ⟨(w.heap.size + 2), 1, U⟩ (E J bt)).setCell ⟨(w.heap.size + 2), 2, U⟩ (E J nx)).setCell ⟨(w.heap.size + 2), 3, U⟩ (G (some ⟨g, 0, U⟩) n3 c3)) = Z9 at *;refine bodyPost_ret (v := .tuple #[.agg #[G a2 nl c2, E J bt, E J nx, G (some ⟨g, 0, U⟩) n3 c3], (G U 0 0)]) ?_ rfl ⟨_, _, rfl, HF.out.1, HF.out.2.1, HF.out.2.2⟩;simp [results, Tryz.results24, go_sem, e0, e1, e2, e3]
 | false =>
  have HP : Q (zc ⟨L, bt, nx, O⟩ (mk, dd, mh, ml) = (⟨L, bt, nx, O⟩, [])) := by
   show _ = _
   unfold zc
   simp only
   rw [HH.out.1, show zv (mk, dd, mh, ml) (dd, l, false, hd) = (some (dd, l, false, hd), [], []) from zdk (fun h => k2 h.1) (fun h => k3 h.1) (fun h => k6 h.1) (fun h => k7 h.1)];have h := HH.out.2.1;simp only [kah, kai, List.append_nil]
   rw [← h]
  go_upto_region 26 with fail
  clear d0 d1 d2 d3 x3 m0 lm lx i0 li gi;obtain ⟨r0, r1, r2, r3⟩ := (H3.out.1).ob.cells4;obtain ⟨t0, t1, t2, t3⟩ := (H3.out.1).rb.cells4;obtain ⟨y0, y1, y2, y3⟩ := (H3.out.1).rb.free4;have lo := (H3.out.1).ob.lt;have lr := (H3.out.1).rb.lt;obtain ⟨p1, p2, p3⟩ := (H3.out.1).ret;obtain ⟨e0, e1, e2, e3⟩ := p3.cells4;have HF : Q ((∀ R : Nat → Prop, (∀ b, R b → b < w.heap.size) → zy R ((((D.setCell ⟨(w.heap.size + 2), 0, U⟩ (G a2 nl c2)).setCell ⟨(w.heap.size + 2), 1, U⟩ (E J bt)).setCell ⟨(w.heap.size + 2), 2, U⟩ (E J nx)).setCell ⟨(w.heap.size + 2), 3, U⟩ (G (some ⟨g, 0, U⟩) n3 c3)) (.agg #[G a2 nl c2, E J bt, E J nx, G (some ⟨g, 0, U⟩) n3 c3]) (zc ⟨L, bt, nx, O⟩ (mk, dd, mh, ml)).1) ∧ zm ((((D.setCell ⟨(w.heap.size + 2), 0, U⟩ (G a2 nl c2)).setCell ⟨(w.heap.size + 2), 1, U⟩ (E J bt)).setCell ⟨(w.heap.size + 2), 2, U⟩ (E J nx)).setCell ⟨(w.heap.size + 2), 3, U⟩ (G (some ⟨g, 0, U⟩) n3 c3)) w.heap.size (G U 0 0) (zc ⟨L, bt, nx, O⟩ (mk, dd, mh, ml)).2 ∧ Z w.heap.size w ((((D.setCell ⟨(w.heap.size + 2), 0, U⟩ (G a2 nl c2)).setCell ⟨(w.heap.size + 2), 1, U⟩ (E J bt)).setCell ⟨(w.heap.size + 2), 2, U⟩ (E J nx)).setCell ⟨(w.heap.size + 2), 3, U⟩ (G (some ⟨g, 0, U⟩) n3 c3))) := by rw [HP.out]; exact ⟨p1, zm.nil _ _, p2⟩
  clear p1 p2 p3;go_wp2_with fail
  clear r0 r1 r2 r3 t0 t1 t2 t3 y0 y1 y2 y3 lo lr;generalize ((((D.setCell ⟨(w.heap.size + 2), 0, U⟩ (G a2 nl c2)).setCell ⟨(w.heap.size + 2), 1, U⟩ (E J bt)).setCell ⟨(w.heap.size + 2), 2, U⟩ (E J nx)).setCell ⟨(w.heap.size + 2), 3, U⟩ (G (some ⟨g, 0, U⟩) n3 c3)) = Z9 at *;refine bodyPost_ret (v := .tuple #[.agg #[G a2 nl c2, E J bt, E J nx, G (some ⟨g, 0, U⟩) n3 c3], (G U 0 0)]) ?_ rfl ⟨_, _, rfl, HF.out.1, HF.out.2.1, HF.out.2.2⟩;simp [results, Tryz.results24, go_sem, e0, e1, e2, e3]
theorem zkb {α : Type} {enc : α → List Value} (he : ∀ x, (enc x).length = 4) : ∀ (xs : List α) (i : Nat) (h : i < xs.length) (x : α) (j : Nat) (_ : j < 4) (u : Value), enc x = (enc xs[i]).set j u → (zx enc xs).set (i * 4 + j) u = zx enc (xs.set i x)
 | p :: t, 0, _, x, j, hj, u, hx => by
  have e : ∀ (y : α) (S : List α), zx enc (y :: S) = enc y ++ zx enc S := by intro y S; simp [zx]
  simp only [List.getElem_cons_zero] at hx
  rw [List.set_cons_zero, e, e, hx, Nat.zero_mul, Nat.zero_add, List.set_append_left _ _ (by rw [he]; exact hj)]
 | p :: t, i + 1, h, x, j, hj, u, hx => by
  have e : ∀ (y : α) (S : List α), zx enc (y :: S) = enc y ++ zx enc S := by intro y S; simp [zx]
  simp only [List.getElem_cons_succ] at hx
  have ih := zkb he t i (by simpa using h) x j hj u hx;rw [List.set_cons_succ, e, e, List.set_append_right _ _ (by rw [he]; omega), he, show (i + 1) * 4 + j - 4 = i * 4 + j by omega, ih]
theorem za.put1 {α : Type} {e : TypeId} {enc : α → List Value} {w : World} {base : Nat} {xs : List α} {g cap n i j : Nat} (he : ∀ x, (enc x).length = 4) (h : za e 4 enc w base (G (some ⟨g, 0, U⟩) n cap) xs) (hn : n = xs.length) (hi : i < xs.length) (hj : j < 4) {x : α} {u : Value} (hx : enc x = (enc xs[i]).set j u) :
  za e 4 enc (r w ⟨g, i * 4 + j, U⟩ u) base (G (some ⟨g, 0, U⟩) n cap) (xs.set i x) := by
 subst hn;have h1 := (World.ownsRow.stored h (i * 4 + j) u).1;unfold za
 rw [zkb he xs i hi x j hj u hx] at h1
 simpa using h1
structure HrT (w0 : World) (mk md mh : Int) (mv : Value) (bt nx : Int) (N7 : Nat) (w : World) (a2 : Option Addr) (n2 c2 : Nat) (Y2 : List XL) (L : List R3) (a3 : Option Addr) (n3 c3 : Nat) (X2 : List XO) (O : List O4) : Prop where
 mb : Blk w (w0.heap.size + 1) #[E J mk, E J md, E J mh, mv] 25
 rb : Blk w (w0.heap.size + 2) #[G U 0 0, E J 0, E J 0, G U 0 0] 29
 ob : Blk w N7 #[G a2 n2 c2, E J bt, E J nx, G a3 n3 c3] 29
 hd : zbg w (w0.heap.size + 3) a2 n2 c2 Y2 a3 n3 c3 X2 L O
 bel : Z w0.heap.size w0 w
 ne : w0.heap.size + 3 ≤ N7
section
variable {w0 w w' : World} {mk md mh : Int} {mv : Value} {bt nx : Int} {N7 : Nat} {a2 : Option Addr} {n2 c2 : Nat} {Y2 : List XL} {L : List R3} {a3 : Option Addr} {n3 c3 : Nat} {X2 : List XO} {O : List O4}
theorem HrT.below (H : HrT w0 mk md mh mv bt nx N7 w a2 n2 c2 Y2 L a3 n3 c3 X2 O) (hb : Z w.heap.size w w') : HrT w0 mk md mh mv bt nx N7 w' a2 n2 c2 Y2 L a3 n3 c3 X2 O :=
 ⟨H.mb.below hb H.mb.lt, H.rb.below hb H.rb.lt, H.ob.below hb H.ob.lt, H.hd.below hb, H.bel.trans (hb.mono H.bel.size), H.ne⟩
theorem HrS.heard {g : Nat} (H : HrS w0 mk md mh mv bt nx N7 w a2 n2 c2 Y2 L (some ⟨g, 0, U⟩) n3 c3 X2 O) {w1 w2 : World} {i : Nat} (hi : i < X2.length) {dd : Int} {pa : Option Addr} {pc : Nat} {l : List P3} {dec : Bool} {ha : Option Addr} {hc : Nat} {hd hd' : List Int} (hx : X2[i] = (dd, ((pa, pc), l), dec, ((ha, hc), hd))) {a' : Option Addr} {n' c' : Nat}
  (hb1 : Z w.heap.size w w1) (hg : w1.grownBy w2 (kaf (G ha hd.length hc))) (ho : za 3 1 zu w2 (w0.heap.size + 3) (G a' n' c') hd') :
  HrT w0 mk md mh mv bt nx N7 (r w2 ⟨g, i * 4 + 3, U⟩ (G a' n' c')) a2 n2 c2 Y2 L (some ⟨g, 0, U⟩) n3 c3 (X2.set i (dd, ((pa, pc), l), dec, ((a', c'), hd'))) (O.set i (dd, l, dec, hd')) := by
 have h1 := H.below hb1
 have hown : za 3 1 zu w1 (w0.heap.size + 3) (G ha hd.length hc) hd := by
  have h := h1.he.own _ (kaa hi);rw [hx] at h;exact h
 have hT : ∀ (t : TypeId), t ≠ 3 → ∀ k, kaf (G ha hd.length hc) = some k → ∃ cs t', Blk w1 k cs t' ∧ t' ≠ t := fun t ht => hown.grownT (fun e => ht e.symm)
 have hcP : zg 90 w1 w2 := zg.grown hg (hT _ (by decide));have hcH : zg 29 w1 w2 := zg.grown hg (hT _ (by decide));have hcM : zg 25 w1 w2 := zg.grown hg (hT _ (by decide));have hcO : zg 58 w1 w2 := zg.grown hg (hT _ (by decide));have hopn := h1.hd.opn.keptT hg (hT _ (by decide));obtain ⟨gb, gcs, hG⟩ := hopn.blk rfl;have hn3 := (h1.hd.opn.at zaq).2.1;have hn' := (ho.at zaf).2.1;have hlog := (h1.hd.log.1.keptT hg (hT _ (by decide))).setOther (a := ⟨g, i * 4 + 3, U⟩) hG (by decide) (G a' n' c')
 have hhd : zbg (r w2 ⟨g, i * 4 + 3, U⟩ (G a' n' c')) (w0.heap.size + 3) a2 n2 c2 Y2 (some ⟨g, 0, U⟩) n3 c3 (X2.set i (dd, ((pa, pc), l), dec, ((a', c'), hd'))) L (O.set i (dd, l, dec, hd')) := by
  refine ⟨⟨hlog, fun y hy => ((h1.hd.log.2 y hy).calm hcP).calm (zg.setCell (a := ⟨g, i * 4 + 3, U⟩) hG (by decide) _)⟩, H.hd.says, hopn.put1 zaq hn3 hi (by omega) ?_, ?_, fun x hxm => ?_⟩
  ·rw [hx]; simp only [zaj, List.set_cons_succ, List.set_cons_zero, ← hn']
  ·rw [List.map_set, H.hd.osays]; rfl
  ·obtain ⟨j, hj, rfl⟩ := List.mem_iff_getElem.1 hxm
   rw [List.length_set] at hj;rw [List.getElem_set];by_cases hij : i = j
   ·rw [if_pos hij]
    have hp := (h1.hd.op _ (kaa hi)).1;rw [hx] at hp;refine ⟨(hp.calm hcP).calm (zg.setCell (a := ⟨g, i * 4 + 3, U⟩) hG (by decide) _), ?_⟩;exact (ho.intsT).calm (zg.setCell (a := ⟨g, i * 4 + 3, U⟩) hG (by decide) _)
   ·rw [if_neg hij]
    refine ⟨((h1.hd.op _ (kaa hj)).1.calm hcP).calm (zg.setCell (a := ⟨g, i * 4 + 3, U⟩) hG (by decide) _), ?_⟩;have hj1 := h1.he.own _ (kaa hj);have hpw := List.pairwise_iff_getElem.1 h1.he.ne
    have hne : (hvO X2[j]).ownBlock = U ∨ (hvO X2[j]).ownBlock ≠ kaf (G ha hd.length hc) := by
     have hvi : hvO X2[i] = G ha hd.length hc := by rw [hx]; rfl
     rw [← hvi]
     cases hb : (hvO X2[j]).ownBlock with
     | none => exact Or.inl rfl
     | some b =>
      refine Or.inr (fun e => ?_);rcases Nat.lt_or_gt_of_ne hij with h | h
      ·exact hpw i j hi hj h b e.symm hb
      ·exact hpw j i hj hi h b hb e.symm
    have h2 := hj1.kept hg hne;unfold hvO at h2
    exact (h2.intsT).calm (zg.setCell (a := ⟨g, i * 4 + 3, U⟩) hG (by decide) _)
 have hob := hcH _ _ h1.ob;have hlt := hG.lt;have hgl : w0.heap.size + 3 ≤ g := gb
 refine ⟨(hcM _ _ h1.mb).setOther (a := ⟨g, i * 4 + 3, U⟩) (by simp; omega) _, (hcH _ _ h1.rb).setOther (a := ⟨g, i * 4 + 3, U⟩) (by simp; omega) _, hob.setOther (a := ⟨g, i * 4 + 3, U⟩) (fun e => by
  simp only at e
  have := hob;rw [e] at this;unfold Blk at this hG
  rw [this] at hG;injection hG with hG
  injection hG with _ h
  exact absurd h (by decide)) _, hhd, ?_, H.ne⟩
 have hb2 := h1.bel.grown hg h1.bel.size (fun k hk => by have := (hown.blk hk).1; omega);exact hb2.setCell (by simp; omega) _
theorem HrT.put {g : Nat} (H : HrT w0 mk md mh mv bt nx N7 w a2 n2 c2 Y2 L (some ⟨g, 0, U⟩) n3 c3 X2 O) {i j : Nat} (hi : i < X2.length) (hj : j < 4) {x : XO} {u : Value} (hx : zaj x = (zaj X2[i]).set j u) (hp : zai (w0.heap.size + 3) w x.2.1.1.1 x.2.1.2) (hq : zdx (w0.heap.size + 3) w x.2.2.2.1.1 x.2.2.2.2) :
  HrT w0 mk md mh mv bt nx N7 (r w ⟨g, i * 4 + j, U⟩ u) a2 n2 c2 Y2 L (some ⟨g, 0, U⟩) n3 c3 (X2.set i x) (O.set i (zw x)) := by
 obtain ⟨gb, gcs, hG⟩ := H.hd.opn.blk rfl;have hgl : w0.heap.size + 3 ≤ g := gb;have hn3 := (H.hd.opn.at zaq).2.1;have hC : ∀ (t : TypeId), 58 ≠ t → zg t w (r w ⟨g, i * 4 + j, U⟩ u) := fun t ht => zg.setCell (a := ⟨g, i * 4 + j, U⟩) hG ht _
 have hhd : zbg (r w ⟨g, i * 4 + j, U⟩ u) (w0.heap.size + 3) a2 n2 c2 Y2 (some ⟨g, 0, U⟩) n3 c3 (X2.set i x) L (O.set i (zw x)) := by
  refine ⟨⟨H.hd.log.1.setOther (a := ⟨g, i * 4 + j, U⟩) hG (by decide) _, fun y hy => (H.hd.log.2 y hy).calm (hC _ (by decide))⟩, H.hd.says, H.hd.opn.put1 zaq hn3 hi hj hx, by rw [List.map_set, H.hd.osays], fun z hz => ?_⟩;rcases List.mem_or_eq_of_mem_set hz with hz | rfl
  ·exact ⟨(H.hd.op _ hz).1.calm (hC _ (by decide)), (H.hd.op _ hz).2.calm (hC _ (by decide))⟩
  ·exact ⟨hp.calm (hC _ (by decide)), hq.calm (hC _ (by decide))⟩
 exact ⟨hC _ (by decide) _ _ H.mb, hC _ (by decide) _ _ H.rb, hC _ (by decide) _ _ H.ob, hhd, H.bel.setCell (by simp; omega) _, H.ne⟩
theorem HrT.note (H : HrT w0 mk md mh mv bt nx N7 w a2 n2 c2 Y2 L a3 n3 c3 X2 O) {w1 w2 : World} {k kd : Int} {l : List P3} {a5 : Option Addr} {c5 : Nat} {a' : Option Addr} {n' c' : Nat} (hb1 : Z w.heap.size w w1) (hp : zai w.heap.size w1 a5 l) (hg : w1.grownBy w2 (kaf (G a2 n2 c2))) (ho : za 40 3 zah w2 (w0.heap.size + 3) (G a' n' c') (Y2 ++ [(k, kd, (a5, c5), l)])) (hsz : w0.heap.size + 3 ≤ w.heap.size) :
  HrT w0 mk md mh mv bt nx N7 (r w2 ⟨N7, 0, U⟩ (G a' n' c')) a' n' c' (Y2 ++ [(k, kd, (a5, c5), l)]) (L ++ [(k, kd, l)]) a3 n3 c3 X2 O := by
 have h1 := H.below hb1;have hT : ∀ (t : TypeId), t ≠ 40 → ∀ q, kaf (G a2 n2 c2) = some q → ∃ cs t', Blk w1 q cs t' ∧ t' ≠ t := fun t ht => h1.hd.log.1.grownT (fun e => ht e.symm)
 have hcP : zg 90 w1 w2 := zg.grown hg (hT _ (by decide));have hcI : zg 3 w1 w2 := zg.grown hg (hT _ (by decide));have hcH : zg 29 w1 w2 := zg.grown hg (hT _ (by decide));have hcM : zg 25 w1 w2 := zg.grown hg (hT _ (by decide));have hob := hcH _ _ h1.ob
 have hhd : zbg w2 (w0.heap.size + 3) a' n' c' (Y2 ++ [(k, kd, (a5, c5), l)]) a3 n3 c3 X2 (L ++ [(k, kd, l)]) O := by
  refine ⟨⟨ho, fun y hy => ?_⟩, by rw [List.map_append, H.hd.says]; rfl, h1.hd.opn.keptT hg (hT _ (by decide)), H.hd.osays, fun x hx => ⟨(h1.hd.op x hx).1.calm hcP, (h1.hd.op x hx).2.calm hcI⟩⟩;rcases List.mem_append.1 hy with hy | hy
  ·exact (h1.hd.log.2 y hy).calm hcP
  ·rw [List.mem_singleton.1 hy]; exact (hp.mono hsz).calm hcP
 have hne := H.ne;have hb2 := h1.bel.grown hg h1.bel.size (fun q hq => by have := (h1.hd.log.1.blk hq).1; omega);exact ⟨(hcM _ _ h1.mb).setOther (a := ⟨N7, 0, U⟩) (by simp; omega) _, (hcH _ _ h1.rb).setOther (a := ⟨N7, 0, U⟩) (by simp; omega) _, hob.set 0 _, hhd.set hob (by decide) (by decide) (by decide) (by decide) _, hb2.setCell (by simp; omega) _, hne⟩
theorem HrT.del (H : HrT w0 mk md mh mv bt nx N7 w a2 n2 c2 Y2 L a3 n3 c3 X2 O) {w5 : World} {i : Nat} (hk : zf (fun q => kaf (G a3 n3 c3) = some q) w w5) {a5 : Option Addr} {n5 c5 : Nat} (ho : za 58 4 zaj w5 (w0.heap.size + 3) (G a5 n5 c5) (X2.eraseIdx i)) :
  HrT w0 mk md mh mv bt nx N7 (r w5 ⟨N7, 3, U⟩ (G a5 n5 c5)) a2 n2 c2 Y2 L a5 n5 c5 (X2.eraseIdx i) (O.eraseIdx i) := by
 have hT : ∀ (t : TypeId), t ≠ 58 → ∀ b, kaf (G a3 n3 c3) = some b → ∃ cs t', Blk w b cs t' ∧ t' ≠ t := fun t ht b hb => by
  obtain ⟨_, cs, hB⟩ := H.hd.opn.blk hb;exact ⟨cs, _, hB, fun e => ht e.symm⟩
 have hcP : zg 90 w w5 := zg.keep hk (hT _ (by decide));have hcI : zg 3 w w5 := zg.keep hk (hT _ (by decide));have hcH : zg 29 w w5 := zg.keep hk (hT _ (by decide));have hcM : zg 25 w w5 := zg.keep hk (hT _ (by decide));have o5 := hcH _ _ H.ob;have hne := H.ne
 have hlog : za 40 3 zah w5 (w0.heap.size + 3) (G a2 n2 c2) Y2 := H.hd.log.1.keepK hk (fun b hb hq => by
  obtain ⟨_, cs, hB⟩ := H.hd.log.1.blk hb
  exact absurd hq (H.hd.opn.neT hB (by decide)))
 have hd5 : zbg w5 (w0.heap.size + 3) a2 n2 c2 Y2 a5 n5 c5 (X2.eraseIdx i) L (O.eraseIdx i) := ⟨⟨hlog, fun y hy => (H.hd.log.2 y hy).calm hcP⟩, H.hd.says, ho, by rw [← H.hd.osays, kaj, kaj, List.map_append, List.map_take, List.map_drop], fun x hx => ⟨(H.hd.op x (List.mem_of_mem_eraseIdx hx)).1.calm hcP, (H.hd.op x (List.mem_of_mem_eraseIdx hx)).2.calm hcI⟩⟩;exact ⟨(hcM _ _ H.mb).setOther (a := ⟨N7, 3, U⟩) (by simp; omega) _, (hcH _ _ H.rb).setOther (a := ⟨N7, 3, U⟩) (by simp; omega) _, o5.set 3 _, hd5.set o5 (by decide) (by decide) (by decide) (by decide) _, (H.bel.trans (hk.below H.bel.size (fun b hb => by have h1 := H.hd.opn.base _ hb; omega))).setCell (by simp; omega) _, hne⟩
theorem HrT.ret (H : HrT w0 mk md mh mv bt nx N7 w a2 n2 c2 Y2 L a3 n3 c3 X2 O) :
  (∀ R : Nat → Prop, (∀ b, R b → b < w0.heap.size) → zy R (r (r (r (r w ⟨w0.heap.size + 2, 0, U⟩ (G a2 n2 c2)) ⟨w0.heap.size + 2, 1, U⟩ (E J bt)) ⟨w0.heap.size + 2, 2, U⟩ (E J nx)) ⟨w0.heap.size + 2, 3, U⟩ (G a3 n3 c3)) (.agg #[G a2 n2 c2, E J bt, E J nx, G a3 n3 c3]) ⟨L, bt, nx, O⟩) ∧
  Z w0.heap.size w0 (r (r (r (r w ⟨w0.heap.size + 2, 0, U⟩ (G a2 n2 c2)) ⟨w0.heap.size + 2, 1, U⟩ (E J bt)) ⟨w0.heap.size + 2, 2, U⟩ (E J nx)) ⟨w0.heap.size + 2, 3, U⟩ (G a3 n3 c3)) ∧
  Blk (r (r (r (r w ⟨w0.heap.size + 2, 0, U⟩ (G a2 n2 c2)) ⟨w0.heap.size + 2, 1, U⟩ (E J bt)) ⟨w0.heap.size + 2, 2, U⟩ (E J nx)) ⟨w0.heap.size + 2, 3, U⟩ (G a3 n3 c3)) (w0.heap.size + 2) #[G a2 n2 c2, E J bt, E J nx, G a3 n3 c3] 29 := by
 have z := H.rb;have hk4 := zb0 z (G a2 n2 c2) (E J bt) (E J nx) (G a3 n3 c3);have hO := (((((H.hd.mono (by omega : w0.heap.size ≤ w0.heap.size + 3)).set z (by decide) (by decide) (by decide) (by decide) (G a2 n2 c2) (i := 0)).set (z.set 0 _) (by decide) (by decide) (by decide) (by decide) (E J bt) (i := 1)).set ((z.set 0 _).set 1 _) (by decide) (by decide) (by decide) (by decide) (E J nx) (i := 2)).set (((z.set 0 _).set 1 _).set 2 _) (by decide) (by decide) (by decide) (by decide) (G a3 n3 c3) (i := 3));exact ⟨fun R hR => hO.v (g := ⟨L, bt, nx, O⟩) hR rfl rfl, H.bel.trans (hk4.2.below H.bel.size (fun b hb => by omega)), hk4.1⟩
theorem HrS.t (H : HrS w0 mk md mh mv bt nx N7 w a2 n2 c2 Y2 L a3 n3 c3 X2 O) : HrT w0 mk md mh mv bt nx N7 w a2 n2 c2 Y2 L a3 n3 c3 X2 O := ⟨H.mb, H.rb, H.ob, H.hd, H.bel, H.ne⟩
end
theorem zqn (la oa : Option Addr) (nl lc no oc : Nat) (bt nx : Int) (L : List R3) (O : List O4) (Y : List XL) (X : List XO) (md mh : Int) (ma : Option Addr) (mn mc : Nat) (ml : List P3) (w : World) (H : zbh (fun _ => False) w la nl Y oa no X L O) (hf : zcf O) (hok : OkL L) (hl : L.length ≤ 400000) (hex : ∃ o ∈ O, o.1 = md) (hr : ∀ o ∈ O, zcj o.2.1) (hw : ∀ o ∈ O, o.2.2.2.Nodup ∧ (∀ k ∈ o.2.2.2, k ∈ zr o.2.1) ∧ o.2.2.2.length ≤ 1000) :
  Calls Tryz.prog 24 #[.agg #[G la nl lc, E J bt, E J nx, G oa no oc], .agg #[E J 2, E J md, E J mh, G ma mn mc]] w fun e w' => ∃ v' sv, e = .returned (.tuple #[v', sv]) ∧ (∀ R : Nat → Prop, (∀ b, R b → b < w.heap.size) → zy R w' v' (zc ⟨L, bt, nx, O⟩ (2, md, mh, ml)).1) ∧ zm w' w.heap.size sv (zc ⟨L, bt, nx, O⟩ (2, md, mh, ml)).2 ∧ Z w.heap.size w w' := by
 have hb0 : Z w.heap.size w (((w.alloc (T #[G la nl lc, E J bt, E J nx, G oa no oc] 29)).alloc (T #[E J 2, E J md, E J mh, G ma mn mc] 25)).alloc (T #[G U 0 0, E J 0, E J 0, G U 0 0] 29)) := (zaw w (T #[G la nl lc, E J bt, E J nx, G oa no oc] 29) (T #[E J 2, E J md, E J mh, G ma mn mc] 25)).alloc (by simp; omega) _;have h0 : Blk (((w.alloc (T #[G la nl lc, E J bt, E J nx, G oa no oc] 29)).alloc (T #[E J 2, E J md, E J mh, G ma mn mc] 25)).alloc (T #[G U 0 0, E J 0, E J 0, G U 0 0] 29)) w.heap.size #[G la nl lc, E J bt, E J nx, G oa no oc] 29 := ((Blk.new _ _ _).alloc _).alloc _;have hm0 : Blk (((w.alloc (T #[G la nl lc, E J bt, E J nx, G oa no oc] 29)).alloc (T #[E J 2, E J md, E J mh, G ma mn mc] 25)).alloc (T #[G U 0 0, E J 0, E J 0, G U 0 0] 29)) (w.heap.size + 1) #[E J 2, E J md, E J mh, G ma mn mc] 25 := Blk.alloc (zao _ _ _) _;have hs2 : ((w.alloc (T #[G la nl lc, E J bt, E J nx, G oa no oc] 29)).alloc (T #[E J 2, E J md, E J mh, G ma mn mc] 25)).heap.size = w.heap.size + 2 := by simp
 have hz0 : Blk (((w.alloc (T #[G la nl lc, E J bt, E J nx, G oa no oc] 29)).alloc (T #[E J 2, E J md, E J mh, G ma mn mc] 25)).alloc (T #[G U 0 0, E J 0, E J 0, G U 0 0] 29)) (w.heap.size + 2) #[G U 0 0, E J 0, E J 0, G U 0 0] 29 := by rw [← hs2]; exact Blk.new _ _ _
 have hs0 : (((w.alloc (T #[G la nl lc, E J bt, E J nx, G oa no oc] 29)).alloc (T #[E J 2, E J md, E J mh, G ma mn mc] 25)).alloc (T #[G U 0 0, E J 0, E J 0, G U 0 0] 29)).heap.size = w.heap.size + 3 := by simp
 have hnL : nl = L.length := by rw [← H.says, List.length_map]; exact H.ln
 have HG := zE (H.below hb0) hf hok hl hnL;clear H hf hok hl hnL hs2;go_enter Tryz.func24, Tryz.ntmps24
 go_upto_region 1 with fail
 generalize (((w.alloc (T #[G la nl lc, E J bt, E J nx, G oa no oc] 29)).alloc (T #[E J 2, E J md, E J mh, G ma mn mc] 25)).alloc (T #[G U 0 0, E J 0, E J 0, G U 0 0] 29)) = V at *;obtain ⟨x0, x1, x2, x3⟩ := h0.cells4;have l0 := h0.lt;go_wp2_with fail
 refine (zf7 la oa nl lc no oc bt nx Y X L O V HG.out.1 HG.out.2.1 HG.out.2.2.1 (by have := HG.out.2.2.2.1; omega)).mono ?_;rintro e w2 ⟨_, rfl, ⟨a2, n2, c2, Y2, a3, n3, c3, X2, rfl, hO2, hE2⟩, hbw2⟩;have hn2 : n2 = nl := by rw [(hO2.log.1.at za7).2.1, HG.out.2.2.2.2, ← hO2.says, List.length_map]
 subst hn2
 have H1 : Q (HrS w 2 md mh (G ma mn mc) bt nx w2.heap.size (w2.alloc (T #[G a2 n2 c2, E J bt, E J nx, G a3 n3 c3] 29)) a2 n2 c2 Y2 L a3 n3 c3 X2 O) := by
  have hbb := zh w2 (T #[G a2 n2 c2, E J bt, E J nx, G a3 n3 c3] 29);have hsz := hbw2.size;exact ⟨(hm0.below hbw2 hm0.lt).below hbb (by omega), (hz0.below hbw2 hz0.lt).below hbb (by omega), Blk.new _ _ _, (hO2.mono (by omega : w.heap.size + 3 ≤ V.heap.size)).below hbb, (hE2.mono (by omega : w.heap.size + 3 ≤ V.heap.size)).below hbb, (hb0.trans (hbw2.mono hb0.size)).trans (hbb.mono (by omega)), by omega⟩
 clear hO2 hE2 hbw2 hb0 hz0 hm0 h0 hs0 x0 x1 x2 x3 l0;go_upto_region 3 with fail
 obtain ⟨N7, hN7⟩ : ∃ N7, N7 = w2.heap.size := ⟨_, rfl⟩;rw [← hN7] at H1;generalize w2.alloc (T #[G a2 n2 c2, E J bt, E J nx, G a3 n3 c3] 29) = A at *;rw [← hN7];clear hN7;obtain ⟨nl, hnl'⟩ : ∃ nl, nl = n2 := ⟨_, rfl⟩;subst hnl';have x3 := H1.out.ob.cell 3;simp only [kab, kac, kag] at x3
 have l0 := H1.out.ob.lt;have hn3 : Q (n3 = X2.length ∧ X2.length ≤ 100000) := ⟨(H1.out.hd.opn.at zaq).2.1, by have h1 := H1.out.hd.osays; have h2 := HG.out.2.1.1; rw [← h1, List.length_map] at h2; exact h2⟩;go_wp2_with fail
 refine (zfy 56 #[.pointer (some ⟨w.heap.size + 1, 0, U⟩)] zge (fun x => x.1 == md) a3 X2 c3 n3 A hn3.out.1 (by have := hn3.out.2; omega) (H1.out.hd.opn.at zaq).1 (fun x _ w' hb => zgf (w.heap.size + 1) 2 md mh x.1 (G ma mn mc) _ _ _ w' (H1.out.mb.below hb H1.out.mb.lt))).mono ?_;rintro e w3 ⟨jj, rfl, hidx, hb3⟩;have HX := zA hidx
 have HLT : Q (∀ x ∈ X2, ∀ b, (hvO x).ownBlock = some b → b < w3.heap.size) := fun x hx b hb => by
  have h1 := H1.out.he.lt x hx b hb;have h2 := hb3.size;omega
 have H3 : Q (HrS w 2 md mh (G ma mn mc) bt nx N7 (w3.alloc (T #[E J jj] 3)) a2 nl c2 Y2 L a3 n3 c3 X2 O ∧ Blk (w3.alloc (T #[E J jj] 3)) w3.heap.size #[E J jj] 3) := ⟨(H1.out.below hb3).below (zh w3 _), Blk.new _ _ _⟩;clear hidx hb3 H1 x3 l0;go_upto_region 4 with fail
 generalize w3.alloc (T #[E J jj] 3) = D at *;have i0 := H3.out.2.cell 0;simp only [kab, kac] at i0
 have li := H3.out.2.lt
 obtain ⟨i, hi, hri, hdi, hlow⟩ : ∃ (i : Nat) (hi : i < X2.length), jj = i ∧ X2[i].1 = md ∧ ∀ j (hj : j < X2.length), j < i → X2[j].1 ≠ md := by
  rcases HX.out with ⟨_, h⟩ | ⟨i, hi, h1, h2, h3⟩
  ·exfalso
   obtain ⟨o, ho, hod⟩ := hex;rw [← H3.out.1.hd.osays] at ho;obtain ⟨x, hx, rfl⟩ := List.mem_map.1 ho;have h2 := h x hx;simp [zw] at h2 hod
   exact h2 hod
  ·exact ⟨i, hi, h1, by simpa using h2, fun j hj hji => by simpa using h3 j hj hji⟩
 subst hri;have hiO : i < O.length := by have h1 := H3.out.1.hd.osays; rw [← h1, List.length_map]; exact hi
 have hOi : O[i] = zw X2[i] := by
  have : O = X2.map zw := H3.out.1.hd.osays.symm;subst this;rw [List.getElem_map]
 have HH : Q (zb2 (2, md, mh, ml) O = some (O.take i ++ ((zv (2, md, mh, ml) (zw X2[i])).1.toList ++ O.drop (i + 1)), (zv (2, md, mh, ml) (zw X2[i])).2.1, (zv (2, md, mh, ml) (zw X2[i])).2.2) ∧ O = O.take i ++ (zw X2[i] :: O.drop (i + 1)) ∧ O.eraseIdx i = O.take i ++ O.drop (i + 1)) := by
  refine ⟨?_, by rw [← hOi, ← List.drop_eq_getElem_cons hiO, List.take_append_drop], kaj _ _⟩;rw [← hOi]
  exact zgt hiO (by rw [hOi]; exact hdi) (fun j hj hji => by
   have h1 := hlow j (by have h1 := H3.out.1.hd.osays; rw [← h1, List.length_map] at hj; exact hj) hji
   have h2 : O[j] = zw (X2[j]'(by have h1 := H3.out.1.hd.osays; rw [← h1, List.length_map] at hj; exact hj)) := by
    have : O = X2.map zw := H3.out.1.hd.osays.symm;subst this;rw [List.getElem_map]
   rw [h2]
   exact h1)
 have hro := hr O[i] (kaa hiO);rw [hOi] at hro
 obtain ⟨g, ha3⟩ : ∃ g, a3 = some ⟨g, 0, U⟩ := by
  rcases H3.out.1.hd.opn.2 with ⟨hv, h0⟩ | ⟨g, cap', cur, hv, _⟩
  ·exfalso; omega
  ·cases hv; exact ⟨g, rfl⟩
 subst ha3;obtain ⟨hgl, d0, d1, d2, d3⟩ := zew (H3.out.1.hd.opn.at zaq).1 hi;simp only [Nat.zero_add] at d0 d1 d2 d3
 have hop := H3.out.1.hd.op _ (kaa hi);have hin : i < n3 := by rw [hn3.out.1]; exact hi
 obtain ⟨x, hx⟩ : ∃ x, Q (X2[i] = x) := ⟨X2[i], by show _ = _; rfl⟩;rw [hx.out] at d0 d1 d2 d3 hop hro hdi;rw [hx.out] at HH;clear hex hlow hOi;obtain ⟨dd, ⟨⟨pa, pc⟩, l⟩, dec, ⟨ha, hc⟩, hd⟩ := x;simp only [zw] at d0 d1 d2 d3 hop hro hdi HH
 subst hdi;obtain ⟨ln, hn, HLL⟩ : ∃ ln hn, Q (l.length = ln ∧ hd.length = hn) := ⟨_, _, rfl, rfl⟩;rw [HLL.out.1] at d1;rw [HLL.out.2] at d3;have gi : decide ((i : Int) < 0) = false := decide_eq_false (by omega);have x3 := H3.out.1.ob.cell 3;simp only [kab, kac, kag] at x3
 have m0 := H3.out.1.mb.cell 0;simp only [kab, kac] at m0
 have lm := H3.out.1.mb.lt;have lx := H3.out.1.ob.lt;have hl1000 : l.length ≤ 1000 := by obtain ⟨h1, h4, _⟩ := zc5 hro; omega
 cases dec with
 | false =>
  have hwo := hw (zw X2[i]) (by have h := H3.out.1.hd.osays; rw [← h]; exact List.mem_map_of_mem (kaa hi));rw [hx.out] at hwo;have HW : Q (hd.Nodup ∧ (∀ k ∈ hd, k ∈ zr l) ∧ hd.length ≤ 1000) := hwo;clear hwo hw
  have hO : za 3 1 zu D (w.heap.size + 3) (G ha hn hc) hd := by
   have h := H3.out.1.he.own _ (kaa hi);rw [hx.out] at h;rw [← HLL.out.2];exact h
  obtain ⟨gb, gcs, hG⟩ := H3.out.1.hd.opn.blk rfl;have HLAST := zj9 g (i * 4) dd pa ln pc l false ha hn hc hd mh (w.heap.size + 3) D hgl d0 d1 d2 d3 (hG.free _) HLL.out.1.symm hro hop.1 hO (by have h1 := H3.out.1.ne; omega) (hO.neT hG (by decide)) HW.out.2.2 gcs hG;have m2 := H3.out.1.mb.cell 2;simp only [kab, kac, kag] at m2
  go_upto_region 12 with fail
  go_wp2_with fail
  refine HLAST.mono ?_;rintro e w4 (⟨hc0, rfl, hb4⟩ | ⟨hc1, w5, w6, a9, n9, c9, rfl, hb5, hg6, ho6, hb7⟩)
  ·have HP : Q (zc ⟨L, bt, nx, O⟩ (2, dd, mh, ml) = (⟨L, bt, nx, O⟩, [])) := by
    show _ = _
    unfold zc
    simp only
    rw [HH.out.1, show zv (2, dd, mh, ml) (dd, l, false, hd) = (some (dd, l, false, hd), [], []) from zdk (fun h => by have h1 := h.2.2.1; have h2 := h.2.2.2; simp only at h1 h2; rw [zhv, h1, h2] at hc0; exact absurd hc0 (by decide)) (fun h => absurd (show (2 : Int) = 3 from h.1) (by decide)) (fun h => absurd (show (2 : Int) = 6 from h.1) (by decide)) (fun h => absurd (show (2 : Int) = 7 from h.1) (by decide))];have h := HH.out.2.1;simp only [kah, kai, List.append_nil]
    rw [← h]
   have H4 := zA (H3.out.1.below hb4);clear hb4 d0 d1 d2 d3 x3 m0 lm lx i0 li gi hO hG HLAST m2;go_upto_region 26 with fail
   obtain ⟨r0, r1, r2, r3⟩ := (H4.out).ob.cells4;obtain ⟨t0, t1, t2, t3⟩ := (H4.out).rb.cells4;obtain ⟨y0, y1, y2, y3⟩ := (H4.out).rb.free4;have lo := (H4.out).ob.lt;have lr := (H4.out).rb.lt;obtain ⟨p1, p2, p3⟩ := (H4.out).ret;obtain ⟨e0, e1, e2, e3⟩ := p3.cells4;have HF : Q ((∀ R : Nat → Prop, (∀ b, R b → b < w.heap.size) → zy R (r (r (r (r w4 ⟨(w.heap.size + 2), 0, U⟩ (G a2 nl c2)) ⟨(w.heap.size + 2), 1, U⟩ (E J bt)) ⟨(w.heap.size + 2), 2, U⟩ (E J nx)) ⟨(w.heap.size + 2), 3, U⟩ (G (some ⟨g, 0, U⟩) n3 c3)) (.agg #[G a2 nl c2, E J bt, E J nx, G (some ⟨g, 0, U⟩) n3 c3]) (zc ⟨L, bt, nx, O⟩ (2, dd, mh, ml)).1) ∧ zm (r (r (r (r w4 ⟨(w.heap.size + 2), 0, U⟩ (G a2 nl c2)) ⟨(w.heap.size + 2), 1, U⟩ (E J bt)) ⟨(w.heap.size + 2), 2, U⟩ (E J nx)) ⟨(w.heap.size + 2), 3, U⟩ (G (some ⟨g, 0, U⟩) n3 c3)) w.heap.size (G U 0 0) (zc ⟨L, bt, nx, O⟩ (2, dd, mh, ml)).2 ∧ Z w.heap.size w (r (r (r (r w4 ⟨(w.heap.size + 2), 0, U⟩ (G a2 nl c2)) ⟨(w.heap.size + 2), 1, U⟩ (E J bt)) ⟨(w.heap.size + 2), 2, U⟩ (E J nx)) ⟨(w.heap.size + 2), 3, U⟩ (G (some ⟨g, 0, U⟩) n3 c3))) := by rw [HP.out]; exact ⟨p1, zm.nil _ _, p2⟩
   clear p1 p2 p3;go_wp2_with fail
   clear r0 r1 r2 r3 t0 t1 t2 t3 y0 y1 y2 y3 lo lr;generalize (r (r (r (r w4 ⟨(w.heap.size + 2), 0, U⟩ (G a2 nl c2)) ⟨(w.heap.size + 2), 1, U⟩ (E J bt)) ⟨(w.heap.size + 2), 2, U⟩ (E J nx)) ⟨(w.heap.size + 2), 3, U⟩ (G (some ⟨g, 0, U⟩) n3 c3)) = Z9 at *;refine bodyPost_ret (v := .tuple #[.agg #[G a2 nl c2, E J bt, E J nx, G (some ⟨g, 0, U⟩) n3 c3], (G U 0 0)]) ?_ rfl ⟨_, _, rfl, HF.out.1, HF.out.2.1, HF.out.2.2⟩;simp [results, Tryz.results24, go_sem, e0, e1, e2, e3]
  ·have H4 : Q (HrT w 2 dd mh (G ma mn mc) bt nx N7 w4 a2 nl c2 Y2 L (some ⟨g, 0, U⟩) n3 c3 (X2.set i (dd, ((pa, pc), l), false, ((a9, c9), hd ++ [mh]))) (O.set i (dd, l, false, hd ++ [mh]))) := by
    rw [← HLL.out.2] at hg6;exact (H3.out.1.heard hi hx.out hb5 hg6 ho6).below hb7
   have hin6 : inI (zr l) mh = true ∧ inI hd mh = false := by
    rw [zhv, Bool.and_eq_true, Bool.not_eq_true'] at hc1;exact hc1
   have hiff := zmt HW.out.1 HW.out.2.1 (zc6.1 hin6.1) (fun h => by rw [← zc6, hin6.2] at h; cases h);clear hb5 hg6 ho6 hb7 d0 d1 d2 d3 x3 m0 lm lx i0 li gi hO hG HLAST m2;by_cases hz : (wtO l (hd ++ [mh])).length = 0
   ·have hz' := decide_eq_true hz
    rw [hz']
    have HP : Q (zc ⟨L, bt, nx, O⟩ (2, dd, mh, ml) = (⟨L ++ [(5, dd, l)], bt, nx, O.set i (dd, l, true, [])⟩, za4 (dd, l, true, []))) := by
     show _ = _
     unfold zc
     simp only
     rw [HH.out.1, show zv (2, dd, mh, ml) (dd, l, false, hd) = (some (dd, l, true, []), [(5, dd, l)], za4 (dd, l, true, [])) from zlj ⟨rfl, rfl, hin6⟩ (hiff.1 hz)];simp only [kah, kai]
     rw [List.set_eq_take_append_cons_drop, if_pos hiO]
    clear hiff hz hz' hin6;have z0 := H4.out.ob.cell 0;simp only [kab, kac] at z0
    have hY : Y2.length ≤ 900000 := by have h1 := H4.out.hd.says; have h2 := HG.out.2.2.2.1; rw [← h1, List.length_map] at h2; omega
    have hi4 : i < (X2.set i (dd, ((pa, pc), l), false, ((a9, c9), hd ++ [mh]))).length := by rw [List.length_set]; exact hi
    have hp4 := (H4.out.hd.op _ (kaa hi4)).1;rw [kae] at hp4;have HNOTE := zne N7 (w.heap.size + 1) (w.heap.size + 3) _ a2 nl c2 Y2 2 dd mh 5 (G ma mn mc) pa ln pc l w4 H4.out.ob z0 H4.out.mb H4.out.hd.log (by have h1 := H4.out.ob.lt; have h2 := H4.out.ne; omega) hY HLL.out.1.symm hl1000 hp4.at;obtain ⟨hg4, q0, q1, q2, q3⟩ := zew (H4.out.hd.opn.at zaq).1 hi4;rw [kae] at q0 q1 q2 q3;simp only [Nat.zero_add, HLL.out.1] at q0 q1 q2 q3
    clear z0 q0 q2 q3 hp4;go_upto_region 13 with fail
    go_wp2_with fail
    refine HNOTE.mono ?_;rintro e w10 ⟨rfl, w7, w8, a8, n8, c8, a7, c7, hb8, hp8, hg8, ho8, rfl⟩;have H8 := zA (H4.out.note hb8 hp8 hg8 ho8 (by have h1 := H4.out.ob.lt; have h2 := H4.out.ne; omega));clear H4 hb8 hp8 hg8 ho8 hY HNOTE q1 hg4;go_upto_region 14 with fail
    generalize (r w8 ⟨N7, 0, U⟩ (G a8 n8 c8)) = w9 at *;obtain ⟨gb9, gcs9, hG9⟩ := H8.out.hd.opn.blk rfl;obtain ⟨hg9, q0, q1, q2, q3⟩ := zew (H8.out.hd.opn.at zaq).1 hi4;simp only [Nat.zero_add] at q2 q3
    have v2 := hG9.free (i * 4 + 2);have v3 := hG9.free (i * 4 + 3)
    have H10 : Q (HrT w 2 dd mh (G ma mn mc) bt nx N7 (r (r w9 ⟨g, i * 4 + 2, U⟩ (.bool true)) ⟨g, i * 4 + 3, U⟩ (G U 0 0)) a8 n8 c8 (Y2 ++ [(5, dd, (a7, c7), l)]) (L ++ [(5, dd, l)]) (some ⟨g, 0, U⟩) n3 c3 (X2.set i (dd, ((pa, pc), l), true, ((U, 0), []))) (O.set i (dd, l, true, []))) := by
     have hop8 := H8.out.hd.op _ (kaa hi4);rw [kae] at hop8;have h1 := H8.out.put (x := (dd, ((pa, pc), l), true, ((a9, c9), hd ++ [mh]))) (u := .bool true) hi4 (by omega : 2 < 4) (by rw [kae]; rfl) hop8.1 hop8.2;rw [List.set_set, List.set_set] at h1;have hi5 : i < (X2.set i (dd, ((pa, pc), l), true, ((a9, c9), hd ++ [mh]))).length := by rw [List.length_set]; exact hi
     have hop9 := h1.hd.op _ (kaa hi5);rw [kae] at hop9;have h2 := h1.put (x := (dd, ((pa, pc), l), true, ((U, 0), []))) (u := G U 0 0) hi5 (by omega : 3 < 4) (by rw [kae]; rfl) hop9.1 (Or.inl rfl);rw [List.set_set, List.set_set] at h2;exact h2
    clear H8 q0 q1 gb9 hG9;go_upto_region 15 with fail
    clear q2 q3 v2 v3 hg9 hi4;generalize (r (r w9 ⟨g, i * 4 + 2, U⟩ (.bool true)) ⟨g, i * 4 + 3, U⟩ (G U 0 0)) = w11 at *;have hi6 : i < (X2.set i (dd, ((pa, pc), l), true, ((U, 0), []))).length := by rw [List.length_set]; exact hi
    have hp6 := (H10.out.hd.op _ (kaa hi6)).1;rw [kae] at hp6;have hX1 : Z w11.heap.size w11 w11.drew := (Below.refl _ _).drew;have hg11 := (zew (H10.out.hd.opn.at zaq).1 hi6).1
    have HK : Q (∀ w', Z w11.heap.size w11 w' → (w'.cell? ⟨N7, 0, U⟩ = some (G a8 n8 c8) ∧ w'.cell? ⟨N7, 1, U⟩ = some (E J bt) ∧ w'.cell? ⟨N7, 2, U⟩ = some (E J nx) ∧ w'.cell? ⟨N7, 3, U⟩ = some (G (some ⟨g, 0, U⟩) n3 c3) ∧ w'.cell? ⟨g, i * 4, U⟩ = some (E J dd) ∧ w'.cell? ⟨g, i * 4 + 1, U⟩ = some (G pa ln pc) ∧ w'.cell? ⟨g, i * 4 + 2, U⟩ = some (.bool true) ∧ w'.cell? ⟨g, i * 4 + 3, U⟩ = some (G U 0 0))) := fun w' hb => by
     have hH := H10.out.below hb;obtain ⟨_, q0, q1, q2, q3⟩ := zew (hH.hd.opn.at zaq).1 hi6;rw [kae] at q0 q1 q2 q3;simp only [Nat.zero_add, HLL.out.1, List.length_nil] at q0 q1 q2 q3
     exact ⟨hH.ob.cell 0, hH.ob.cell 1, hH.ob.cell 2, hH.ob.cell 3, q0, q1, q2, q3⟩
    refine zb9 (S := fun w' => (w'.cell? ⟨N7, 0, U⟩ = some (G a8 n8 c8) ∧ w'.cell? ⟨N7, 1, U⟩ = some (E J bt) ∧ w'.cell? ⟨N7, 2, U⟩ = some (E J nx) ∧ w'.cell? ⟨N7, 3, U⟩ = some (G (some ⟨g, 0, U⟩) n3 c3) ∧ w'.cell? ⟨g, i * 4, U⟩ = some (E J dd) ∧ w'.cell? ⟨g, i * 4 + 1, U⟩ = some (G pa ln pc) ∧ w'.cell? ⟨g, i * 4 + 2, U⟩ = some (.bool true) ∧ w'.cell? ⟨g, i * 4 + 3, U⟩ = some (G U 0 0))) 5 (by kernel_rfl) (HK.out _ hX1) (fun hHeld => ?_);refine tks 4 [(0, 62), (1, 63), (2, 64), (3, 65)] (b := ?_) rfl (by decide +kernel) (fun _ _ _ _ _ h => h) ?_ hHeld ?_;rotate_left 1
    ·iterate 4 (refine zo.cons (v := ?_) rfl rfl (by rfl) ?_ ?_; rotate_left 1; (intro w h; (try dsimp only at h); go_simp; try with_reducible rfl))
     exact zo.nil
    refine rdy 4 (by kernel_rfl) rfl (fun K hK => ?_);go_simp;refine (zjz dd pa ln pc l true U 0 0 [] w11.drew HLL.out.1.symm hro (hp6.at.below hX1) rfl (by simp) (Or.inl rfl)).mono ?_;rintro e w12 ⟨v4, rfl, hM4, hb4⟩;have hX4 := hX1.trans (hb4.mono hX1.size);have hM4' : zm w12 w.heap.size v4 (za4 (dd, l, true, [])) := hM4.mono (by have h1 := H10.out.bel.size; have h2 := hX1.size; omega);clear hM4 hb4;go_wp2_with fail
    refine kgo hK (by decide +kernel) ((HK.out _ hX4)) (fun hHeld => ?_);clear hK K;have z := H10.out.rb.below hX4 H10.out.rb.lt;obtain ⟨t0, t1, t2, t3⟩ := z.cells4;obtain ⟨y0, y1, y2, y3⟩ := z.free4;have lr := z.lt;refine rdy 5 (by kernel_rfl) rfl (fun K hK => ?_);go_simp;refine za5 hK (by decide +kernel) ?_;clear hK K hHeld;refine rdy 6 (by kernel_rfl) rfl (fun K hK => ?_);go_simp;refine za5 hK (by decide +kernel) ?_;clear hK K;refine zbd (by kernel_rfl) ?_ _;obtain ⟨p1, p2, p3⟩ := (H10.out.below hX4).ret;obtain ⟨e0, e1, e2, e3⟩ := p3.cells4;have HF : Q ((∀ R : Nat → Prop, (∀ b, R b → b < w.heap.size) → zy R (r (r (r (w12.setCell ⟨(w.heap.size + 2), 0, U⟩ (G a8 n8 c8)) ⟨(w.heap.size + 2), 1, U⟩ (E J bt)) ⟨(w.heap.size + 2), 2, U⟩ (E J nx)) ⟨(w.heap.size + 2), 3, U⟩ (G (some ⟨g, 0, U⟩) n3 c3)) (.agg #[G a8 n8 c8, E J bt, E J nx, G (some ⟨g, 0, U⟩) n3 c3]) (zc ⟨L, bt, nx, O⟩ (2, dd, mh, ml)).1) ∧ zm (r (r (r (w12.setCell ⟨(w.heap.size + 2), 0, U⟩ (G a8 n8 c8)) ⟨(w.heap.size + 2), 1, U⟩ (E J bt)) ⟨(w.heap.size + 2), 2, U⟩ (E J nx)) ⟨(w.heap.size + 2), 3, U⟩ (G (some ⟨g, 0, U⟩) n3 c3)) w.heap.size v4 (zc ⟨L, bt, nx, O⟩ (2, dd, mh, ml)).2 ∧ Z w.heap.size w (r (r (r (w12.setCell ⟨(w.heap.size + 2), 0, U⟩ (G a8 n8 c8)) ⟨(w.heap.size + 2), 1, U⟩ (E J bt)) ⟨(w.heap.size + 2), 2, U⟩ (E J nx)) ⟨(w.heap.size + 2), 3, U⟩ (G (some ⟨g, 0, U⟩) n3 c3))) := by rw [HP.out]; exact ⟨p1, hM4'.set4 z _ _ _ _, p2⟩
    clear p1 p2 p3 hM4' z t0 t1 t2 t3 y0 y1 y2 y3 lr;generalize (r (r (r (w12.setCell ⟨(w.heap.size + 2), 0, U⟩ (G a8 n8 c8)) ⟨(w.heap.size + 2), 1, U⟩ (E J bt)) ⟨(w.heap.size + 2), 2, U⟩ (E J nx)) ⟨(w.heap.size + 2), 3, U⟩ (G (some ⟨g, 0, U⟩) n3 c3)) = Z9 at *;go_wp2_with fail
    refine bodyPost_ret (v := .tuple #[.agg #[G a8 n8 c8, E J bt, E J nx, G (some ⟨g, 0, U⟩) n3 c3], v4]) ?_ rfl ⟨_, _, rfl, HF.out.1, HF.out.2.1, HF.out.2.2⟩;simp [results, Tryz.results24, go_sem, e0, e1, e2, e3]
   ·have hz' := decide_eq_false hz
    rw [hz']
    have HP : Q (zc ⟨L, bt, nx, O⟩ (2, dd, mh, ml) = (⟨L, bt, nx, O.set i (dd, l, false, hd ++ [mh])⟩, [])) := by
     show _ = _
     unfold zc
     simp only
     rw [HH.out.1, show zv (2, dd, mh, ml) (dd, l, false, hd) = (some (dd, l, false, hd ++ [mh]), [], []) from zke ⟨rfl, rfl, hin6⟩ (fun h => hz (hiff.2 h))];simp only [kah, kai, List.append_nil]
     rw [List.set_eq_take_append_cons_drop, if_pos hiO]
    clear hiff hz hz' hin6;go_upto_region 26 with fail
    obtain ⟨r0, r1, r2, r3⟩ := (H4.out).ob.cells4;obtain ⟨t0, t1, t2, t3⟩ := (H4.out).rb.cells4;obtain ⟨y0, y1, y2, y3⟩ := (H4.out).rb.free4;have lo := (H4.out).ob.lt;have lr := (H4.out).rb.lt;obtain ⟨p1, p2, p3⟩ := (H4.out).ret;obtain ⟨e0, e1, e2, e3⟩ := p3.cells4;have HF : Q ((∀ R : Nat → Prop, (∀ b, R b → b < w.heap.size) → zy R (r (r (r (r w4 ⟨(w.heap.size + 2), 0, U⟩ (G a2 nl c2)) ⟨(w.heap.size + 2), 1, U⟩ (E J bt)) ⟨(w.heap.size + 2), 2, U⟩ (E J nx)) ⟨(w.heap.size + 2), 3, U⟩ (G (some ⟨g, 0, U⟩) n3 c3)) (.agg #[G a2 nl c2, E J bt, E J nx, G (some ⟨g, 0, U⟩) n3 c3]) (zc ⟨L, bt, nx, O⟩ (2, dd, mh, ml)).1) ∧ zm (r (r (r (r w4 ⟨(w.heap.size + 2), 0, U⟩ (G a2 nl c2)) ⟨(w.heap.size + 2), 1, U⟩ (E J bt)) ⟨(w.heap.size + 2), 2, U⟩ (E J nx)) ⟨(w.heap.size + 2), 3, U⟩ (G (some ⟨g, 0, U⟩) n3 c3)) w.heap.size (G U 0 0) (zc ⟨L, bt, nx, O⟩ (2, dd, mh, ml)).2 ∧ Z w.heap.size w (r (r (r (r w4 ⟨(w.heap.size + 2), 0, U⟩ (G a2 nl c2)) ⟨(w.heap.size + 2), 1, U⟩ (E J bt)) ⟨(w.heap.size + 2), 2, U⟩ (E J nx)) ⟨(w.heap.size + 2), 3, U⟩ (G (some ⟨g, 0, U⟩) n3 c3))) := by rw [HP.out]; exact ⟨p1, zm.nil _ _, p2⟩
    clear p1 p2 p3;go_wp2_with fail
    clear r0 r1 r2 r3 t0 t1 t2 t3 y0 y1 y2 y3 lo lr;generalize (r (r (r (r w4 ⟨(w.heap.size + 2), 0, U⟩ (G a2 nl c2)) ⟨(w.heap.size + 2), 1, U⟩ (E J bt)) ⟨(w.heap.size + 2), 2, U⟩ (E J nx)) ⟨(w.heap.size + 2), 3, U⟩ (G (some ⟨g, 0, U⟩) n3 c3)) = Z9 at *;refine bodyPost_ret (v := .tuple #[.agg #[G a2 nl c2, E J bt, E J nx, G (some ⟨g, 0, U⟩) n3 c3], (G U 0 0)]) ?_ rfl ⟨_, _, rfl, HF.out.1, HF.out.2.1, HF.out.2.2⟩;simp [results, Tryz.results24, go_sem, e0, e1, e2, e3]
 | true =>
  clear hw
  have HP : Q (zc ⟨L, bt, nx, O⟩ (2, dd, mh, ml) = (⟨L, bt, nx, O⟩, [])) := by
   show _ = _
   unfold zc
   simp only
   rw [HH.out.1, show zv (2, dd, mh, ml) (dd, l, true, hd) = (some (dd, l, true, hd), [], []) from zdk (fun h => by cases h.2.1) (fun h => absurd (show (2 : Int) = 3 from h.1) (by decide)) (fun h => absurd (show (2 : Int) = 6 from h.1) (by decide)) (fun h => absurd (show (2 : Int) = 7 from h.1) (by decide))];have h := HH.out.2.1;simp only [kah, kai, List.append_nil]
   rw [← h]
  go_upto_region 26 with fail
  clear d0 d1 d2 d3 x3 m0 lm lx i0 li gi;obtain ⟨r0, r1, r2, r3⟩ := (H3.out.1).ob.cells4;obtain ⟨t0, t1, t2, t3⟩ := (H3.out.1).rb.cells4;obtain ⟨y0, y1, y2, y3⟩ := (H3.out.1).rb.free4;have lo := (H3.out.1).ob.lt;have lr := (H3.out.1).rb.lt;obtain ⟨p1, p2, p3⟩ := (H3.out.1).ret;obtain ⟨e0, e1, e2, e3⟩ := p3.cells4;have HF : Q ((∀ R : Nat → Prop, (∀ b, R b → b < w.heap.size) → zy R ((((D.setCell ⟨(w.heap.size + 2), 0, U⟩ (G a2 nl c2)).setCell ⟨(w.heap.size + 2), 1, U⟩ (E J bt)).setCell ⟨(w.heap.size + 2), 2, U⟩ (E J nx)).setCell ⟨(w.heap.size + 2), 3, U⟩ (G (some ⟨g, 0, U⟩) n3 c3)) (.agg #[G a2 nl c2, E J bt, E J nx, G (some ⟨g, 0, U⟩) n3 c3]) (zc ⟨L, bt, nx, O⟩ (2, dd, mh, ml)).1) ∧ zm ((((D.setCell ⟨(w.heap.size + 2), 0, U⟩ (G a2 nl c2)).setCell ⟨(w.heap.size + 2), 1, U⟩ (E J bt)).setCell ⟨(w.heap.size + 2), 2, U⟩ (E J nx)).setCell ⟨(w.heap.size + 2), 3, U⟩ (G (some ⟨g, 0, U⟩) n3 c3)) w.heap.size (G U 0 0) (zc ⟨L, bt, nx, O⟩ (2, dd, mh, ml)).2 ∧ Z w.heap.size w ((((D.setCell ⟨(w.heap.size + 2), 0, U⟩ (G a2 nl c2)).setCell ⟨(w.heap.size + 2), 1, U⟩ (E J bt)).setCell ⟨(w.heap.size + 2), 2, U⟩ (E J nx)).setCell ⟨(w.heap.size + 2), 3, U⟩ (G (some ⟨g, 0, U⟩) n3 c3))) := by rw [HP.out]; exact ⟨p1, zm.nil _ _, p2⟩
  clear p1 p2 p3;go_wp2_with fail
  clear r0 r1 r2 r3 t0 t1 t2 t3 y0 y1 y2 y3 lo lr;generalize ((((D.setCell ⟨(w.heap.size + 2), 0, U⟩ (G a2 nl c2)).setCell ⟨(w.heap.size + 2), 1, U⟩ (E J bt)).setCell ⟨(w.heap.size + 2), 2, U⟩ (E J nx)).setCell ⟨(w.heap.size + 2), 3, U⟩ (G (some ⟨g, 0, U⟩) n3 c3)) = Z9 at *;refine bodyPost_ret (v := .tuple #[.agg #[G a2 nl c2, E J bt, E J nx, G (some ⟨g, 0, U⟩) n3 c3], (G U 0 0)]) ?_ rfl ⟨_, _, rfl, HF.out.1, HF.out.2.1, HF.out.2.2⟩;simp [results, Tryz.results24, go_sem, e0, e1, e2, e3]
end Go.Proofs.YtpcnlifmkhagkaaGreat
