import Derived.Test.YtpcnlifmkhagkaaKAJ08
import Derived.Test.YtpcnlifmkhagkaaKAShelf
import Derived.Lib.OwnBridge
import Derived.Sort.Grow
set_option maxRecDepth 20000
set_option maxHeartbeats 20000000
namespace Go.Proofs.Ytpcnlifmkhagkaa
open Go.RowKit
open Go.Value renaming slice → G, int → E
open Go.IntKind renaming i64 → J
open _root_.Option renaming none → U
open Go.Obj renaming cells → T
open Go.RowKit renaming Hid → Q, Below → Z
open _root_.Nat renaming le_refl → kaa
attribute [local go_sem ↓] Go.wp_at_zero Go.wp_at_succ
open Go.RowKit Go.Sort
def zc7 (w : World) (base : Nat) (v : Value) (l : List Int) : Prop := w.ownsRow base 3 1 v l.length (l.map (Value.int J))
def sortB (l : List P3) : List Int := (l.map (·.1)).mergeSort fun x y => decide (x ≤ y)
def zht (l : List P3) : List Int := Lib.compact (sortB l)
theorem zc7.below {w w' : World} {base : Nat} {v : Value} {l : List Int} (h : zc7 w base v l) {B : Nat} (hb : Z B w w') (hB : w.heap.size ≤ B) : zc7 w' base v l := zhf h hb hB
theorem zmw {ops : Array Oper} {rest : List Oper} {o : Oper} {a : Act} {zZ : Exit → Act → World → Prop} (w : World) (hgd : o.guard = U) (s x : Operand)
  (ho : o.op = .call { callee := .builtin .append, args := #[s, x], argTypes := #[36, 36] })
  (base : Nat) (v : Value) (l : List Int) (hs : a.eval s = v) (jx : zc7 w base v l) (B : Nat) (p : Int) (hx : a.eval x = G (some ⟨B, 0, U⟩) 1 1)
  (hB : w.heap[B]? = some (T #[E J p] 3)) (hl : l.length ≤ 1000000) (hbase : base ≤ w.heap.size)
  (h : ∀ g cap w', zc7 w' base (G (some ⟨g, 0, U⟩) (l.length + 1) cap) (l ++ [p]) → w.grownBy w' v.ownBlock → (v.ownBlock = some g ∨ g = w.heap.size) → g < w'.heap.size → wpList Try.prog ops zZ rest (a.put o.dst (G (some ⟨g, 0, U⟩) (l.length + 1) cap)) w') : wpList Try.prog ops zZ (o :: rest) a w := by
 obtain ⟨i0, hi, hz0, hz1, hz2⟩ := info_parts zcn;refine wpList_append_lies w hgd s x 36 ho base 3 i0 _ 1 8 Try.underlying36 hi hz0 hz1 hz2 rfl (by decide) v l.length (l.map (Value.int J)) hs jx ⟨B, 0, U⟩ 1 1 [E J p] hx rfl (World.news_of_block hB) ?_ (by decide) (by unfold maxLen; omega) (by omega) hbase w.heap.size rfl ?_
 ·intro u hu
  simp at hu
  subst hu;rfl
 ·intro g cap w' h1 h2 h3 h4
  refine h g cap w' ?_ h2 h3 h4;unfold zc7
  simpa using h1
theorem zc7.row {w : World} {base : Nat} {v : Value} {l : List Int} (h : zc7 w base v l) : ∀ k, v.ownBlock = some k → base ≤ k := by
 intro j hj;rcases h.2 with ⟨hv, _⟩ | ⟨g', cap'', cur, hv, hg', _⟩
 ·rw [hv] at hj; cases hj
 ·rw [hv] at hj; cases hj; exact hg'
theorem zk9 {B : Nat} {a w : World} (h : Z B a w) (hB : B ≤ w.heap.size) (os : Array Obj) : Z B a (grow w os) :=
 h.trans ⟨rfl, rfl, rfl, by simp, fun k hk => heap_grow_old w os (by omega)⟩
theorem zme (a : Option Addr) (l : List P3) (cap n : Nat) (w : World) (hn : n = l.length) (hl : l.length ≤ 4) (h1 : 1 ≤ l.length) (hp : zal w a l) :
  Calls Try.prog 40 #[G a n cap] w fun e w' => ∃ v, e = .returned v ∧ zc7 w' w.heap.size v (zht l) ∧ Z w.heap.size w w' := by
 subst hn;obtain ⟨i0, hi, hz0, hz1, hz2⟩ := info_parts zcn;go_enter Try.func40, Try.ntmps40
 go_wp2_with (at_make; refine wpList_make_own _ rfl _ _ 36 rfl w.heap.size 3 i0 (E J 0) 1 Try.underlying36 hi hz0 hz1 J J _ l.length rfl rfl rfl (by rw [hz2]; omega) (by unfold maxLen; omega) (kaa _) ?_; intro w1 jx j9)
 have hB1 := (Below.refl _ _).grown j9 (kaa _) (fun k hk => by cases hk);clear j9 hi hz0 hz1 hz2;go_loopw [3, 11] (fun v i w' => ∃ k : Nat, k ≤ l.length ∧ i = E J k ∧ zc7 w' w.heap.size v ((l.take k).map (·.1)) ∧ Z w.heap.size w w' ∧ v ≠ G U 0 0) (fun _ i _ => l.length - (intOf i).toNat)
 case atStart => exact ⟨0, Nat.zero_le _, rfl, jx, hB1, by simp⟩
 case round =>
  obtain ⟨k, hk, rfl, jx, hbw, hne⟩ := hrel;by_cases hlt : k < l.length
  ·rcases hp with rfl | ⟨b', o, rfl, hb', hc⟩
   ·simp at hlt
   obtain ⟨d0, d1, d2⟩ := hc k hlt;clear hc;obtain ⟨hcc, hff⟩ := zcz hbw;have hsz := hbw.size;have hle : ((l.take k).map (·.1)).length ≤ 1000000 := by simp; omega
   have HE : (l.take (k + 1)).map (·.1) = (l.take k).map (·.1) ++ [l[k].1] := by rw [zax hlt, List.map_append]; rfl
   generalize (l.take k).map (·.1) = zs at *;have HE2 := zA HE;have HO := zA jx;clear jx HE;go_wp2_with (at_builtin; refine zmw _ rfl _ _ rfl w.heap.size _ _ rfl (HO.out.below (za2 wr _ _) (kaa _)) (wr.heap.size + 1) l[k].1 rfl (by exact zaq wr _ _) hle (by simp; omega) ?_; intro g cap' w2 hown2 j9 hat hlt2)
   have hB2 := (hbw.trans ((za2 wr _ _).mono hsz)).grown j9 (by simp; omega) HO.out.row;clear j9 hat HO hcc hff d0 d1 d2 hle;go_wp2;go_roundw
   case rel =>
    refine ⟨k + 1, by omega, by go_num, ?_, hB2, by simp⟩;rw [HE2.out];exact hown2
   case measure => simp [intOf]; omega
  ·have hlk : l.take k = l := by rw [List.take_of_length_le (by omega)]
   rw [hlk] at jx;obtain ⟨zs, hzs⟩ : ∃ zs, zs = l.map (·.1) := ⟨_, rfl⟩;have hzl : zs.length = l.length := by rw [hzs]; simp
   have hz4 : zs.length ≤ 4 := by omega
   rw [← hzs] at jx;have HZ := zB hzs hzl;clear hzs hzl hlk hp;obtain ⟨g, cap', rfl, hbg, hgl, hncap, hcm, _, hH⟩ := Lib.holds_of_ownsRow jx hne;have hsort := Try.slices_Sort_int g 0 cap' zs wr hH hgl (by omega);have HX := zB jx hH;clear jx hne hH;go_wp2_with fail
   refine hsort.mono ?_;rintro e w2 ⟨rfl, nn, os, rfl⟩;clear hsort;have hl2 : (zs.mergeSort fun x y => decide (x ≤ y)).length = zs.length := List.length_mergeSort zs
   have hH2 : Holds (Value.int J) (grow (putRow (Value.int J) (Sort.ahead wr nn) g 0 (zs.mergeSort fun x y => decide (x ≤ y)).toArray) os) g 0 (zs.mergeSort fun x y => decide (x ≤ y)).toArray :=
    holds_grow _ _ os g 0 _ (by simpa [putRow, mapBlock, Sort.ahead] using hgl) (holds_putRow _ _ g 0 _ _ (holds_ahead _ wr nn g 0 _ HX.out.2) (by simp))
   have hB2 : Z w.heap.size w (grow (putRow (Value.int J) (Sort.ahead wr nn) g 0 (zs.mergeSort fun x y => decide (x ≤ y)).toArray) os) := zk9 (Lib.below_putRow hbw hbg) (by simpa [putRow, mapBlock, Sort.ahead] using hbw.size) os
   have hO2 : zc7 (grow (putRow (Value.int J) (Sort.ahead wr nn) g 0 (zs.mergeSort fun x y => decide (x ≤ y)).toArray) os) w.heap.size (G (some ⟨g, 0, U⟩) zs.length cap') (zs.mergeSort fun x y => decide (x ≤ y)) := by
    have h1 := Lib.ownsRow_putRow (q := nn) (k := zs.length) (ys := zs.mergeSort fun x y => decide (x ≤ y)) HX.out.1 hl2 (kaa _);rw [List.take_of_length_le (by omega)] at h1;have h2 := zhf h1 (zk9 (Below.refl _ _) (kaa _) os) (kaa _);unfold zc7
    rw [hl2];exact h2
   have HS : Q (zht l = Lib.compact (zs.mergeSort fun x y => decide (x ≤ y))) := by
    show _ = _
    rw [HZ.out.1]; rfl
   generalize (grow (putRow (Value.int J) (Sort.ahead wr nn) g 0 (zs.mergeSort fun x y => decide (x ≤ y)).toArray) os) = w2 at *;generalize (zs.mergeSort fun x y => decide (x ≤ y)) = ys at *;have hcomp := Try.slices_Compact_int g 0 cap' ys w2 hH2 (by omega) (by omega);rw [hl2] at hcomp;have HY := zB hl2 hO2;clear hl2 hO2 hH2 HX HZ;go_wp2_with fail
   refine hcomp.mono ?_;rintro e w3 ⟨rfl, q, rfl⟩;clear hcomp;have HL := zA (Lib.compact_length_le ys);go_wp2;go_ret;refine ⟨_, rfl, ?_, Lib.below_putRow hB2 hbg⟩;rw [HS.out];have hle := HL.out;have hO := HY.out.2;unfold zc7 at hO
   rw [HY.out.1] at hO hle;have hc := Lib.ownsRow_putRow (q := q) (k := (Lib.compact ys).length) (ys := Lib.compact ys ++ List.replicate (zs.length - (Lib.compact ys).length) 0) hO (by simp; omega) hle;rw [List.take_left] at hc;unfold zc7
   exact hc
def zdu (l : List P3) (k : Int) : List Int := ([0, 1, 2] : List Int).filter fun n => decide (n < k ∧ 0 < (ofB l n).length)
theorem zp6 (l : List P3) : zdu l 0 = [] := by
 simp [zdu]
theorem znc (l : List P3) {k : Int} (h0 : 0 ≤ k) (h3 : k < 3) : zdu l (k + 1) = if 0 < (ofB l k).length then zdu l k ++ [k] else zdu l k := by
 have hk : k = 0 ∨ k = 1 ∨ k = 2 := by omega
 rcases hk with rfl | rfl | rfl
 all_goals
  simp only [zdu, List.filter_cons, List.filter_nil]
  generalize (ofB l 0).length = n0;generalize (ofB l 1).length = n1;generalize (ofB l 2).length = n2;by_cases c0 : 0 < n0 <;> by_cases c1 : 0 < n1 <;> by_cases c2 : 0 < n2 <;> simp [c0, c1, c2]
theorem znz (l : List P3) (k : Int) : (zdu l k).length ≤ 3 := by
 have := List.length_filter_le (fun n => decide (n < k ∧ 0 < (ofB l n).length)) ([0, 1, 2] : List Int)
 simpa [zdu] using this
theorem zgg (a : Option Addr) (l : List P3) (cap n : Nat) (w : World) (hn : n = l.length) (hl : l.length ≤ 4) (hp : zal w a l) :
  Calls Try.prog 10 #[G a n cap] w fun e w' => ∃ v, e = .returned v ∧ zc7 w' w.heap.size v (zdu l 3) ∧ Z w.heap.size w w' := by
 subst hn;go_enter Try.func10, Try.ntmps10
 go_wp2;go_loopw [3, 5] (fun v i w' => ∃ k : Int, 0 ≤ k ∧ k ≤ 3 ∧ i = E J k ∧ zc7 w' w.heap.size v (zdu l k) ∧ Z w.heap.size w w') (fun _ i _ => (3 - intOf i).toNat)
 case atStart => exact ⟨0, by omega, by omega, rfl, by rw [zp6]; exact World.ownsRow_nil _ _ _ _, Below.refl _ _⟩
 case round =>
  obtain ⟨k, hk0, hk, rfl, jx, hbw⟩ := hrel;by_cases hlt : k < 3
  ·have zbg := znc l hk0 hlt
   have jw := znz l k;generalize zdu l k = rs at *;have hsz := hbw.size;go_wp2_with fail
   refine (zkj k a l cap _ wr rfl hl (hp.below hbw)).mono ?_;rintro e w1 ⟨v, rfl, hov, hb1⟩;obtain ⟨a1, c1, rfl, _, _⟩ := hov.parts;have hsz1 := hb1.size;have hB1 := hbw.trans (hb1.mono hsz);have hown1 := jx.below hb1 (kaa _);clear hov hb1 jx hbw;by_cases hc : 0 < (ofB l k).length
   ·rw [if_pos hc] at zbg
    have hc' : 0 < ((ofB l k).length : Int) := by omega
    have HX := zB zbg hown1;clear zbg hown1 hc;go_wp2_with (at_builtin; refine zmw _ rfl _ _ rfl w.heap.size u3 rs rfl (HX.out.2.below (zi w1 _) (kaa _)) w1.heap.size k rfl (by exact heap_alloc_new w1 _) (by omega) (by simp; omega) ?_; intro g cap' w2 hown2 j9 hat hlt2)
    have hB2 := (hB1.alloc (by omega) _).grown j9 (by simp; omega) HX.out.2.row;clear j9 hat;go_wp2;go_roundw
    case rel => exact ⟨k + 1, by omega, by omega, by go_num, by rw [HX.out.1]; exact hown2, hB2⟩
    case measure => simp [intOf]; omega
   ·rw [if_neg hc] at zbg
    have hc' : ¬ 0 < ((ofB l k).length : Int) := by omega
    have HX := zB zbg hown1;clear zbg hown1 hc;go_wp2;go_roundw
    case rel => exact ⟨k + 1, by omega, by omega, by go_num, by rw [HX.out.1]; exact HX.out.2, hB1⟩
    case measure => simp [intOf]; omega
  ·have hk3 : k = 3 := by omega
   subst hk3;have HX := zA jx;clear jx hp;go_wp2;go_ret;exact ⟨_, rfl, HX.out, hbw⟩
theorem flat_encI (l : List Int) : zx zv l = l.map (Value.int J) := by
 induction l with
 | nil => rfl
 | cons a t ih =>
  show zv a ++ zx zv t = _
  rw [ih];rfl
theorem zc7.own {w : World} {base : Nat} {v : Value} {l : List Int} (h : zc7 w base v l) : zd 3 1 zv w base v l := by
 unfold zd
 rw [flat_encI];exact h
theorem zfs (l : List P3) : zdu l 3 = zp l := by
 unfold zdu zp
 refine List.filter_congr (fun n hn => ?_);have h3 : n < 3 := by simp at hn; omega
 simp [h3]
def zd8 (o : O4) (hs : List Int) : List Q4 := (hs.filter fun n => !inI o.2.2.2 n).map fun n => if o.2.2.1 = true then (4, o.1, n, []) else (1, o.1, n, ofB o.2.1 n)
theorem zle (o : O4) : zd8 o (zp o.2.1) = za6 o := rfl
theorem zoc {o : O4} {hs : List Int} {k : Nat} (h : k < hs.length) : zd8 o (hs.take (k + 1)) = zd8 o (hs.take k) ++ (if inI o.2.2.2 hs[k] = true then [] else [if o.2.2.1 = true then (4, o.1, hs[k], []) else (1, o.1, hs[k], ofB o.2.1 hs[k])]) := by
 unfold zd8
 rw [zax h, List.filter_append, List.map_append];congr 1
 cases c : inI o.2.2.2 hs[k] <;> simp [c]
theorem zkc (o : O4) (hs : List Int) : (zd8 o hs).length ≤ hs.length := by
 unfold zd8
 rw [List.length_map];exact List.length_filter_le _ _
theorem zdy (l : List P3) : (zp l).length ≤ 3 := List.length_filter_le _ _
theorem zm.len {w : World} {base : Nat} {v : Value} {ms : List Q4} (h : zm w base v ms) : ∃ X : List XM, X.length = ms.length ∧ zd 43 4 zb4 w base v X ∧ X.map zc6 = ms ∧ ∀ x ∈ X, zam base w x.2.2.2.1.1 x.2.2.2.2 := by
 obtain ⟨X, h1, h2, h3⟩ := h;exact ⟨X, by rw [← h2, List.length_map], h1, h2, h3⟩
theorem zm.snoc {w w2 w4 : World} {base : Nat} {X : List XM} {ms : List Q4} {v v4 : Value} {x : XM} (hX : X.map zc6 = ms) (hT : ∀ y ∈ X, zam base w y.2.2.2.1.1 y.2.2.2.2) (hC : zj 49 w w2) (hO : zd 43 4 zb4 w2 base v X) (hg : w2.grownBy w4 v.ownBlock) (h4 : zd 43 4 zb4 w4 base v4 (X ++ [x])) (hx : zam base w2 x.2.2.2.1.1 x.2.2.2.2) : zm w4 base v4 (ms ++ [zc6 x]) := by
 have hC2 : zj 49 w2 w4 := zj.grown hg (hO.grownT (by decide));refine ⟨X ++ [x], h4, by rw [List.map_append, hX]; rfl, fun y hy => ?_⟩;rcases List.mem_append.1 hy with hy | hy
 ·exact ((hT y hy).calm hC).calm hC2
 ·rw [List.mem_singleton.1 hy]; exact hx.calm hC2
theorem zj6 (d : Int) (pa : Option Addr) (np pc : Nat) (l : List P3) (dec : Bool) (ha : Option Addr) (nh hc : Nat) (hd : List Int) (w : World) (hnp : np = l.length) (hl : l.length ≤ 4) (hp : zal w pa l) (hnh : nh = hd.length) (hhl : hd.length ≤ 9223372036854775807) (hh : zk 1 zv w ha hd) :
  Calls Try.prog 65 #[.agg #[E J d, G pa np pc, .bool dec, G ha nh hc]] w fun e w' => ∃ v', e = .returned v' ∧ zm w' w.heap.size v' (za6 (d, l, dec, hd)) ∧ Z w.heap.size w w' := by
 have HN := zF hnp hl hp hnh hhl hh;clear hnp hl hp hnh hhl hh;have hb0 := zi w (T #[E J d, G pa np pc, .bool dec, G ha nh hc] 38);have hN0 : Blk (w.alloc (T #[E J d, G pa np pc, .bool dec, G ha nh hc] 38)) w.heap.size #[E J d, G pa np pc, .bool dec, G ha nh hc] 38 := Blk.new _ _ _;go_enter Try.func65, Try.ntmps65
 go_wp2_with fail
 generalize w.alloc (T #[E J d, G pa np pc, .bool dec, G ha nh hc] 38) = W at *;refine (zgg pa l pc np W HN.out.1 HN.out.2.1 (HN.out.2.2.1.below hb0)).mono ?_;rintro e w1 ⟨hv, rfl, hoI, hb1⟩;rw [zfs] at hoI;have hHL := zdy l;have HAll : Q (zd8 (d, l, dec, hd) (zp l) = za6 (d, l, dec, hd)) := zle _;generalize zp l = hs at *;obtain ⟨ga, gn, gc, rfl⟩ := hoI.own.slice zai;have jX := hoI.own.at zai;have hgn := jX.2.1;have HR := zF jX.1 (hN0.below hb1 hN0.lt) (hb0.trans (hb1.mono hb0.size)) ((HN.out.2.2.1.below hb0).below hb1) ((HN.out.2.2.2.2.2.below hb0).below hb1) hgn;have hgn3 : gn ≤ 3 := by omega
 clear hoI jX hb1 hb0 hN0 hgn hHL;go_wp2;go_loopw [3, 10] (fun v i w' => ∃ k : Nat, k ≤ gn ∧ i = E J k ∧ Q (zm w' w1.heap.size v (zd8 (d, l, dec, hd) (hs.take k)) ∧ Z w1.heap.size w1 w')) (fun _ i _ => gn - (intOf i).toNat)
 case atStart => exact ⟨0, Nat.zero_le _, rfl, zm.nil _ _, Below.refl _ _⟩
 case round =>
  obtain ⟨k, hk, rfl, hR⟩ := hrel;by_cases hlt : k < gn
  ·have hkh : k < hs.length := by have := HR.out.2.2.2.2.2; omega
   obtain ⟨hM, hbw⟩ := hR.out;have HE : Q (zd8 (d, l, dec, hd) (hs.take (k + 1)) = zd8 (d, l, dec, hd) (hs.take k) ++ (if inI hd hs[k] = true then [] else [if dec = true then (4, d, hs[k], []) else (1, d, hs[k], ofB l hs[k])])) := zoc hkh;have hml := zkc (d, l, dec, hd) (hs.take k);rw [List.length_take] at hml;generalize zd8 (d, l, dec, hd) (hs.take k) = ms at *;obtain ⟨X, hXl, hO, hX, hT⟩ := hM.len;obtain ⟨av, nv, cv, rfl⟩ := hO.slice zbw;have hBk := HR.out.2.1.below hbw HR.out.2.1.lt;have c1 := hBk.cell 1;have c3 := hBk.cell 3;simp only [List.getElem?_toArray, List.getElem?_cons_zero, List.getElem?_cons_succ] at c1 c3
   have hBl := hBk.lt;rcases HR.out.1.below hbw with h0 | ⟨g, o, rfl, hg, hcs⟩
   ·rw [h0] at hkh; simp at hkh
   have d0 := hcs k hkh 0 _ rfl;simp only [Nat.mul_one, Nat.add_zero] at d0
   have HW : Q (zd 43 4 zb4 wr w1.heap.size (G av nv cv) X ∧ X.map zc6 = ms ∧ (∀ x ∈ X, zam w1.heap.size wr x.2.2.2.1.1 x.2.2.2.2) ∧ Z w1.heap.size w1 wr ∧ Blk wr w.heap.size #[E J d, G pa np pc, .bool dec, G ha nh hc] 38 ∧ X.length ≤ 3) := ⟨hO, hX, hT, hbw, hBk, by omega⟩;have HM0 := zA hM;clear hR hM hO hX hT hBk hcs hml hXl;generalize hs[k] = x at *;go_wp2_with fail
   refine (zfq ha hd hc nh x wr HN.out.2.2.2.1 HN.out.2.2.2.2.1 (HR.out.2.2.2.2.1.below HW.out.2.2.2.1)).mono ?_;rintro e w2 ⟨rfl, hb2⟩;have hsz := HW.out.2.2.2.1.size;have HB2 := zB hb2 (HW.out.2.2.2.1.trans (hb2.mono hsz));have hBk2 := HW.out.2.2.2.2.1.below hb2 HW.out.2.2.2.2.1.lt;have hs2 := HB2.out.2.size;cases hin : inI hd x
   ·rw [hin, if_neg (by decide)] at HE
    have e0 := hBk2.cell 0;have e1 := hBk2.cell 1;have e2 := hBk2.cell 2;simp only [List.getElem?_toArray, List.getElem?_cons_zero, List.getElem?_cons_succ] at e0 e1 e2
    have hBl2 := hBk2.lt;clear c1 c3 d0 hb2 hin hBl
    cases dec with
    | true =>
     rw [if_pos rfl] at HE;have HO2 := zA (HW.out.1.below HB2.out.1 (kaa _));have hX3 := HW.out.2.2.2.2.2;clear hBk2;go_wp2_with (at_builtin; refine zbj zbw oneM Try.underlying24 zfm rfl (by decide) _ rfl _ _ rfl w1.heap.size _ X rfl (HO2.out.below (zi w2 _) (kaa _)) (some ⟨w2.heap.size, 0, U⟩) 1 1 [(4, d, x, (U, 0), [])] rfl rfl (zk.one (Blk.new w2 _ _) rfl) (by unfold maxLen; simp; omega) (by simp; omega) (by simp; omega) ?_; intro a4 n4 c4 w4 jv hn4 jy jQ; clear hn4)
     have HF : Q (zm w4 w1.heap.size (G a4 n4 c4) (zd8 (d, l, true, hd) (hs.take (k + 1))) ∧ Z w1.heap.size w1 w4) := by
      refine ⟨?_, ?_⟩
      ·rw [HE.out]
       exact zm.snoc (x := (4, d, x, (U, 0), [])) HW.out.2.1 HW.out.2.2.1 ((zj.below HB2.out.1 (kaa _)).trans (zj.alloc _ _ _)) (HO2.out.below (zi w2 _) (kaa _)) jy jv (Or.inl rfl)
      ·exact (HB2.out.2.alloc hs2 _).grown jy (by simp; omega) HO2.out.base
     clear jv jy jQ e0 e1 e2;go_wp2;go_roundw
     case rel => exact ⟨k + 1, by omega, by go_num, HF⟩
     case measure => simp [intOf]; omega
    | false =>
     rw [if_neg (by decide)] at HE;have hX3 := HW.out.2.2.2.2.2;have HK : Q (∀ w', Z w1.heap.size w2 w' → (w'.cell? ⟨w.heap.size, 0, U⟩ = some (E J d) ∧ w'.cell? ⟨w.heap.size, 1, U⟩ = some (G pa np pc))) := fun w' hb => ⟨(hBk2.below hb HR.out.2.1.lt).cell 0, (hBk2.below hb HR.out.2.1.lt).cell 1⟩
     have hX0 : Z w2.heap.size w2 w2.drew := (Below.refl _ _).drew;have hX1 : Z w1.heap.size w2 w2.drew := (Below.refl _ _).drew;have HP2 := zB (HR.out.2.2.2.1.below HB2.out.2) (HW.out.1.below HB2.out.1 (kaa _));clear hBk2 e0 e1;go_upto_region 5 with fail
     clear e2
     go_region_held3 (fun w' => (w'.cell? ⟨w.heap.size, 0, U⟩ = some (E J d) ∧ w'.cell? ⟨w.heap.size, 1, U⟩ = some (G pa np pc))) (
      first
      | (with_reducible exact HK.out _ h4W)
      | (with_reducible exact HK.out _ hHW)
      | (with_reducible exact HK.out _ hHA)
      | (with_reducible exact HK.out _ hX1)
      | (with_reducible exact HK.out _ (Below.refl _ _))) (
      first
      | (refine zeu zbw oneM Try.underlying24 zfm rfl (by decide) _ rfl _ _ rfl w1.heap.size _ X rfl ((HP2.out.2.below hH (kaa _)).below (zi wH _) (kaa _)) (some ⟨wH.heap.size, 0, U⟩) 1 1 [(1, d, x, (a3, c3), ofB l x)] rfl rfl (zk.one (Blk.new wH _ _) rfl) (by unfold maxLen; simp; omega) (by simp; omega) (by have := hH.size; simp; omega) ?_; intro a4 n4 c4 w4 jv hn4 jy jQ; clear hn4; have h4W : Z w1.heap.size w2 w4 := hHA.grown jy (by have := hH.size; simp; omega) HP2.out.2.base)
      | (go_at_call 27; refine (zkj x pa l pc np _ HN.out.1 HN.out.2.1 (HP2.out.1.below hX0)).mono ?_; rintro e wH ⟨v3, rfl, ho3, hb3⟩; obtain ⟨a3, c3, rfl, hT3, -⟩ := ho3.typed; have hH : Z w2.heap.size w2 wH := hX0.trans (hb3.mono hX0.size); have hHW : Z w1.heap.size w2 wH := hH.mono hs2; have hHA := hHW.alloc (by have := hH.size; omega) (T #[E J 1, E J d, E J x, G a3 (ofB l x).length c3] 43)))
     all_goals
      have HF : Q (zm w4 w1.heap.size (G a4 n4 c4) (zd8 (d, l, false, hd) (hs.take (k + 1))) ∧ Z w1.heap.size w1 w4) := by
       refine ⟨?_, ?_⟩
       ·rw [HE.out]
        exact zm.snoc (x := (1, d, x, (a3, c3), ofB l x)) HW.out.2.1 HW.out.2.2.1 (((zj.below HB2.out.1 (kaa _)).trans (zj.below hH (kaa _))).trans (zj.alloc _ _ _)) ((HP2.out.2.below hH (kaa _)).below (zi wH _) (kaa _)) jy jv ((hT3.mono (by have := hX0.size; omega)).calm (zj.alloc _ _ _))
       ·exact ((HB2.out.2.trans (hH.mono hs2)).alloc (by have := hH.size; omega) _).grown jy (by have := hH.size; simp; omega) (HP2.out.2).base
      clear jv jy jQ;go_wp2;go_roundw
      case rel => exact ⟨k + 1, by omega, by go_num, HF⟩
      case measure => simp [intOf]; omega
   ·rw [hin, if_pos rfl, List.append_nil] at HE
    have HF : Q (zm w2 w1.heap.size (G av nv cv) (zd8 (d, l, dec, hd) (hs.take (k + 1))) ∧ Z w1.heap.size w1 w2) := ⟨by rw [HE.out]; exact HM0.out.below HB2.out.1, HB2.out.2⟩;clear c1 c3 d0 hb2 hin hBl hBk2;go_wp2;go_roundw
    case rel => exact ⟨k + 1, by omega, by go_num, HF⟩
    case measure => simp [intOf]; omega
  ·have HF : Q (zm wr w1.heap.size u3 (za6 (d, l, dec, hd)) ∧ Z w1.heap.size w1 wr) := by
    have := hR.out;rwa [List.take_of_length_le (by have := HR.out.2.2.2.2.2; omega), HAll.out] at this
   clear hR;go_wp2;go_ret;exact ⟨_, rfl, HF.out.1.mono HR.out.2.2.1.size, HR.out.2.2.1.trans (HF.out.2.mono HR.out.2.2.1.size)⟩
end Go.Proofs.Ytpcnlifmkhagkaa
