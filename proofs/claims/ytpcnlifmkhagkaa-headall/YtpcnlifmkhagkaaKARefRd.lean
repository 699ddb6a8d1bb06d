import Derived.Test.YtpcnlifmkhagkaaKAJ29
set_option maxRecDepth 20000
set_option maxHeartbeats 20000000
namespace Go.Proofs.Ytpcnlifmkhagkaa
open Go.RowKit
open Go.Value renaming slice → G, int → E
open Go.IntKind renaming i64 → J
open _root_.Option renaming none → U
open Go.Obj renaming cells → T
open Go.RowKit renaming Hid → Q, Below → Z
open Go.World renaming setCell → r
open _root_.Or renaming inl → kaa
open _root_.Nat renaming le_refl → kab
open _root_.List renaming setIfInBounds_toArray → kac, set_cons_zero → kae, set_cons_succ → kaf, getElem?_toArray → kag, getElem?_cons_zero → kah, getElem?_cons_succ → kai
open Go.IntKind renaming wrap_i64 → kad
attribute [local go_sem ↓] Go.wp_at_zero Go.wp_at_succ
theorem zmx (k d h : Int) (l : List P3) : zbd k d h l = zdo (k, d, h, l) := by
 unfold zbd
 show _ = (if k < 1 ∨ 7 < k then 1 else if d < 0 ∨ 1344 ≤ d ∨ h < 0 ∨ 3 ≤ h then 3 else if k = 1 then (if zay l 3 = 0 then (if (ofB l h).length < l.length then 3 else 0) else zay l 3) else if 0 < l.length then 5 else 0)
 by_cases h1 : k < 1 ∨ 7 < k
 ·rw [if_pos h1, if_pos h1]
 ·rw [if_neg h1, if_neg h1]
  by_cases h2 : d < 0 ∨ 1343 < d ∨ h < 0 ∨ 2 < h
  ·rw [if_pos h2, if_pos (show d < 0 ∨ 1344 ≤ d ∨ h < 0 ∨ 3 ≤ h by omega)]
  ·rw [if_neg h2, if_neg (show ¬ (d < 0 ∨ 1344 ≤ d ∨ h < 0 ∨ 3 ≤ h) by omega)]
   by_cases h3 : 1 < k
   ·rw [if_pos h3, if_neg (show ¬ k = 1 by omega)]
    by_cases h4 : l.length = 0
    ·rw [if_pos h4, if_neg (show ¬ 0 < l.length by omega)]
    ·rw [if_neg h4, if_pos (show 0 < l.length by omega)]
   ·rw [if_neg h3, if_pos (show k = 1 by omega)]
    by_cases h4 : zay l 3 = 0
    ·rw [if_pos h4, if_pos h4]
     have : ((l.any fun p => !decide (p.1 = h)) = true) ↔ (ofB l h).length < l.length := by
      have hle : (ofB l h).length ≤ l.length := List.length_filter_le _ _;constructor
      ·intro ha
       rcases Nat.lt_or_ge (ofB l h).length l.length with h' | h'
       ·exact h'
       ·have he : (ofB l h).length = l.length := by omega
        rw [List.any_eq_true] at ha;obtain ⟨p, hp, hn⟩ := ha;have := List.length_filter_eq_length_iff.1 he p hp;simp at hn this
        exact absurd this hn
      ·intro hlt
       rcases Bool.eq_false_or_eq_true (l.any fun p => !decide (p.1 = h)) with h' | h'
       ·exact h'
       ·rw [List.any_eq_false] at h'
        have : (ofB l h).length = l.length := List.length_filter_eq_length_iff.2 (fun p hp => by have := h' p hp; simpa using this);omega
     by_cases h5 : (l.any fun p => !decide (p.1 = h)) = true
     ·rw [if_pos h5, if_pos (this.1 h5)]
     ·rw [if_neg h5, if_neg (fun h => h5 (this.2 h))]
    ·rw [if_neg h4, if_neg h4]
theorem zjr (h : Int) : ∀ (t : List Int), (zbt h t).length ≤ t.length
 | [] => by simp [zbt]
 | [_] => by simp [zbt]
 | a :: b :: t => by
  have := zjr h t;simp [zbt]
  omega
theorem zlo (h : Int) : ∀ (t : List Int) (j : Nat) (h1 : 2 * j + 1 < t.length), zbt h (t.take (2 * (j + 1))) = zbt h (t.take (2 * j)) ++ [(h, t[2 * j], t[2 * j + 1])]
 | [], _, h1 => by simp at h1
 | [_], _, h1 => by simp at h1
 | a :: b :: t, 0, _ => by simp [zbt]
 | a :: b :: t, j + 1, h1 => by
  have ih := zlo h t j (by simp at h1; omega);have e1 : 2 * (j + 1 + 1) = 2 * (j + 1) + 1 + 1 := by omega
  have e2 : 2 * (j + 1) = 2 * j + 1 + 1 := by omega
  rw [e1, List.take_succ_cons, List.take_succ_cons];show (h, a, b) :: zbt h (t.take (2 * (j + 1))) = _
  rw [ih];have e3 : (a :: b :: t).take (2 * (j + 1)) = a :: b :: t.take (2 * j) := by rw [e2, List.take_succ_cons, List.take_succ_cons]
  rw [e3];have e4 : (a :: b :: t)[2 * (j + 1)]'(by simp at h1 ⊢; omega) = t[2 * j]'(by simp at h1; omega) := by simp [e2]
  have e5 : (a :: b :: t)[2 * (j + 1) + 1]'h1 = t[2 * j + 1]'(by simp at h1; omega) := by simp [e2]
  rw [e4, e5];rfl
theorem three_of {ns : List Int} (h : 3 ≤ ns.length) : ∃ a b c t, ns = a :: b :: c :: t := by
 match ns, h with
 | a :: b :: c :: t, _ => exact ⟨a, b, c, t, rfl⟩
theorem zd.first {α : Type} {e : TypeId} {size : Nat} {enc : α → List Value} {w : World} {base : Nat} {a : Option Addr} {n c : Nat} {xs : List α} (h : zd e size enc w base (G a n c) xs) (hx : 0 < xs.length) : ∃ g cs, a = some ⟨g, 0, U⟩ ∧ Blk w g cs e := by
 rcases h.2 with ⟨hv, h0⟩ | ⟨g', cap', cur, hv, hg, hh, _⟩
 ·omega
 ·injection hv with h1 h2 h3
  exact ⟨g', cur, h1, hh⟩
def lenV : Value → Nat
 | G _ n _ => n
 | _ => 0
theorem zfl (x : Int) (w : World) : Calls Try.prog 67 #[E J x] w fun e w' => e = .returned (.tuple #[.agg #[E J 0, E J 0, E J 0, G U 0 0], E J x]) ∧ Z w.heap.size w w' := by
 go_enter Try.func67, Try.ntmps67
 go_wp2_with fail
 refine bodyPost_ret (v := .tuple #[.agg #[E J 0, E J 0, E J 0, G U 0 0], E J x]) ?_ rfl ⟨rfl, zi _ _⟩;simp [results, Try.results67, go_sem]
theorem zm7 (a : Option Addr) (l : List Nat) (cap n : Nat) (w : World) (hn : n = l.length) (jZ : l.length ≤ cap) (hmax : cap ≤ 9223372036854775807) (hb : Byt l) (hp : zdj w a l) :
  Calls Try.prog 47 #[G a n cap] w fun e w' => ∃ v, e = .returned (.tuple #[.agg #[E J (zcw l).1.1, E J (zcw l).1.2.1, E J (zcw l).1.2.2.1, v], E J (zcw l).2]) ∧
   (∃ pa pc, v = G pa (zcw l).1.2.2.2.length pc ∧ zam w.heap.size w' pa (zcw l).1.2.2.2) ∧ Z w.heap.size w w' := by
 subst hn;have hz0 : Blk (w.alloc (T #[E J 0, E J 0, E J 0, G U 0 0] 43)) w.heap.size #[E J 0, E J 0, E J 0, G U 0 0] 43 := Blk.new _ _ _;have hzb := zi w (T #[E J 0, E J 0, E J 0, G U 0 0] 43);by_cases h3 : l.length < 3
 ·have HE : Q (zcw l = (m0, 8)) := by show _ = _; unfold zcw; exact if_pos h3
  have HZ := zB hz0 hzb;clear hp hb hz0 hzb;go_enter Try.func47, Try.ntmps47
  go_upto_region 2 with fail
  generalize w.alloc (T #[E J 0, E J 0, E J 0, G U 0 0] 43) = W at *;go_wp2_with fail
  refine (zfl 8 W).mono ?_;rintro e9 w9 ⟨rfl, hb9⟩;have hz9 := HZ.out.1.below hb9 HZ.out.1.lt;obtain ⟨t0, t1, t2, t3⟩ := hz9.cells4;obtain ⟨y0, y1, y2, y3⟩ := hz9.free4;have hzl := hz9.lt;obtain ⟨hZ9, hK9⟩ := put4 hz9 (E J 0) (E J 0) (E J 0) (G U 0 0);have hB9 := HZ.out.2.trans (hb9.mono HZ.out.2.size);have HF9 := zA (hB9.trans (hK9.below hB9.size (fun q hq => by omega)));obtain ⟨e0, e1, e2, e3⟩ := hZ9.cells4;clear hz9 hZ9 hK9 hb9 hB9;go_wp2_with fail
  clear t0 t1 t2 t3 y0 y1 y2 y3;generalize (r (r (r (r w9 ⟨w.heap.size, 0, U⟩ (E J 0)) ⟨w.heap.size, 1, U⟩ (E J 0)) ⟨w.heap.size, 2, U⟩ (E J 0)) ⟨w.heap.size, 3, U⟩ (G U 0 0)) = Z9 at *;refine bodyPost_ret (v := .tuple #[.agg #[E J 0, E J 0, E J 0, G U 0 0], E J 8]) ?_ rfl ⟨G U 0 0, by rw [HE.out]; rfl, ⟨U, 0, by rw [HE.out]; rfl, by rw [HE.out]; exact kaa rfl⟩, HF9.out⟩;simp [results, Try.results47, go_sem, e0, e1, e2, e3]
 rcases hp with rfl | ⟨b, o, rfl, hlt, hc⟩
 ·simp at h3
 have hbl := hlt;obtain ⟨q, HQ⟩ : ∃ q, Q (l.length = q + 2) := ⟨l.length - 2, by show _ = _; omega⟩;have hq0 := HQ.out;have x0 := hc q (by omega);have x1 := hc (q + 1) (by omega);have xk := hc 0 (by omega);have hyk : l[0] < 256 := hb _ (List.getElem_mem _);have hy0 : l[q] < 256 := hb _ (List.getElem_mem _);have hy1 : l[q + 1] < 256 := hb _ (List.getElem_mem _)
 have HEn : Q (endB l = l[q] * 256 + l[q + 1]) := by
  show _ = _
  unfold endB
  have e1 : l.length - 2 = q := by omega
  have e2 : l.length - 1 = q + 1 := by omega
  rw [e1, e2];simp [List.getD_eq_getElem?_getD, List.getElem?_eq_getElem (show q < l.length by omega), List.getElem?_eq_getElem (show q + 1 < l.length by omega)]
 have Hk0 : Q ((l.take q).getD 0 0 = l[0]) := by
  show _ = _
  rw [List.getD_eq_getElem?_getD, List.getElem?_take_of_lt (by omega), List.getElem?_eq_getElem (show 0 < l.length by omega)];rfl
 generalize l[0] = yk at *;generalize l[q] = z0 at *;generalize l[q + 1] = z1 at *;have hbody := zno (Or.inr ⟨b, o, rfl, hlt, hc⟩) q;have hbb := byt_take hb q;have hlq : (l.take q).length = q := by simp; omega
 have HR : Q (zcw l = if zce (l.take q) = z0 * 256 + z1 then
   (if (zar 12 [] 3 ((l.take q).drop 1)).2.2 = 0 then (if 0 < (zar 12 [] 3 ((l.take q).drop 1)).2.1.length then (m0, 2) else
    (if zdo (((yk : Nat) : Int), (zar 12 [] 3 ((l.take q).drop 1)).1.getD 0 0, (zar 12 [] 3 ((l.take q).drop 1)).1.getD 1 0, zbt ((zar 12 [] 3 ((l.take q).drop 1)).1.getD 1 0) ((zar 12 [] 3 ((l.take q).drop 1)).1.drop 3)) = 0 then ((((yk : Nat) : Int), (zar 12 [] 3 ((l.take q).drop 1)).1.getD 0 0, (zar 12 [] 3 ((l.take q).drop 1)).1.getD 1 0, zbt ((zar 12 [] 3 ((l.take q).drop 1)).1.getD 1 0) ((zar 12 [] 3 ((l.take q).drop 1)).1.drop 3)), 0) else (m0, zdo (((yk : Nat) : Int), (zar 12 [] 3 ((l.take q).drop 1)).1.getD 0 0, (zar 12 [] 3 ((l.take q).drop 1)).1.getD 1 0, zbt ((zar 12 [] 3 ((l.take q).drop 1)).1.getD 1 0) ((zar 12 [] 3 ((l.take q).drop 1)).1.drop 3))))) else (m0, (zar 12 [] 3 ((l.take q).drop 1)).2.2)) else (m0, 7)) := by
  show _ = _
  unfold zcw
  rw [if_neg h3, HEn.out, hq0, show q + 2 - 2 = q from rfl, Hk0.out]
 have hq1 : 1 ≤ q := by omega
 have hld : ((l.take q).drop 1).length = q - 1 := by rw [List.length_drop, hlq]
 have hbd : Byt ((l.take q).drop 1) := fun c hc => hbb c (List.mem_of_mem_drop hc)
 have hcd : ∀ i (h : i < ((l.take q).drop 1).length), w.cell? ⟨b, o + 1 + i, U⟩ = some (E .u8 (((l.take q).drop 1)[i] : Nat)) := fun i hi => by
  have := hc (1 + i) (by rw [hld] at hi; omega);have e : ((l.take q).drop 1)[i] = l[1 + i]'(by rw [hld] at hi; omega) := by simp [Nat.add_comm]
  rw [Nat.add_assoc, e];exact this
 rw [hq0] at jZ;have hcap2 := jZ;clear hc hb HEn h3 Hk0;have HD := zD hld hbd hcd hlt;clear hld hbd hcd;generalize (l.take q).drop 1 = ld at *;generalize l.take q = body at *;rw [hq0];clear hq0 HQ;rw [Nat.add_zero] at xk;go_enter Try.func47, Try.ntmps47
 go_upto_region 5 with fail
 have hbody1 := hbody.below hzb;have u0 := (hzb.cell (p := ⟨b, o + q, U⟩) hlt).trans x0;have u1 := (hzb.cell (p := ⟨b, o + (q + 1), U⟩) hlt).trans x1;have uk := (hzb.cell (p := ⟨b, o, U⟩) hlt).trans xk;generalize w.alloc (T #[E J 0, E J 0, E J 0, G U 0 0] 43) = W1 at *;have hslt := zh4 body;have HS : ∀ W', zdj W' (some ⟨b, o, U⟩) body → Calls Try.prog 68 #[G (some ⟨b, o, U⟩) q cap] W' fun e w' => e = .returned (E J (zce body : Nat)) ∧ w' = W' := fun W' hW' => zk3 (some ⟨b, o, U⟩) body cap q W' hlq.symm (by omega) hbb hW'
 clear x0 x1 xk hbody;have hc0 : ¬ cap = 0 := by omega
 have hc1 : q ≤ cap := by omega
 have hc2 : ¬ cap < q := by omega
 have hc3 : q < q + 2 := by omega
 have hc4 : q + 1 < q + 2 := by omega
 have hc5 : ¬ ((q : Int) < 0) := by omega
 have hc6 : ¬ ((q : Int) + 2 ≤ q) := by omega
 have hc7 : (q : Int) < q + 2 := by omega
 have hc8 : ¬ ((q : Int) + 1 < 0) := by omega
 have hc9 : ¬ ((q : Int) + 2 ≤ q + 1) := by omega
 have hc10 : (q : Int) + 1 < q + 2 := by omega
 have hc11 : (0 : Int) ≤ q := by omega
 have hc12 : (0 : Int) ≤ q + 1 := by omega
 have hc13 : ((q : Int) + 1).toNat = q + 1 := by omega
 have hw1 : IntKind.i64.wrap (z0 : Int) = z0 := by rw [kad]; omega
 have hw2 : IntKind.i64.wrap (256 * (z0 : Int)) = 256 * z0 := by rw [kad]; omega
 have hw3 : IntKind.i64.wrap ((q : Int) + 1) = q + 1 := by rw [kad]; omega
 have hw4 : IntKind.i64.wrap (z1 : Int) = z1 := by rw [kad]; omega
 have hw5 : IntKind.i64.wrap (256 * (z0 : Int) + z1) = 256 * z0 + z1 := by rw [kad]; omega
 go_quiet ((go_at_call 68; refine Calls.quiet_of_same (HS _ ?_); exact hbody1.below (below_drewN (Below.refl _ _) _)))
 have hb2 : Z w.heap.size w (W1.drewN nq) := below_drewN hzb _;have hB2 := hz0.below (below_drewN (Below.refl W1.heap.size W1) nq) hz0.lt;have vk : (W1.drewN nq).cell? ⟨b, o, U⟩ = some (E .u8 (yk : Nat)) := uk;generalize W1.drewN nq = W2 at *;clear hzb hz0 hbody1 u0 u1 uk HS hc0 hc1 hc2 hc3 hc4 hc5 hc6 hc7 hc8 hc9 hc10 hc11 hc12 hc13 hw1 hw2 hw3 hw4 hw5;have HZ := zB hB2 hb2;by_cases hsum : zce body = z0 * 256 + z1
 case neg =>
  have HE : Q (zcw l = (m0, 7)) := by show _ = _; rw [HR.out, if_neg hsum]
  have hne : (((zce body : Nat) : Int) != 256 * (z0 : Int) + (z1 : Int)) = true := by
   rw [bne_iff_ne]; omega
  rw [hne];clear hne HR hsum hB2 hb2;go_wp2_with fail
  refine (zfl 7 W2).mono ?_;rintro e9 w9 ⟨rfl, hb9⟩;have hz9 := HZ.out.1.below hb9 HZ.out.1.lt;obtain ⟨t0, t1, t2, t3⟩ := hz9.cells4;obtain ⟨y0, y1, y2, y3⟩ := hz9.free4;have hzl := hz9.lt;obtain ⟨hZ9, hK9⟩ := put4 hz9 (E J 0) (E J 0) (E J 0) (G U 0 0);have hB9 := HZ.out.2.trans (hb9.mono HZ.out.2.size);have HF9 := zA (hB9.trans (hK9.below hB9.size (fun q hq => by omega)));obtain ⟨e0, e1, e2, e3⟩ := hZ9.cells4;clear hz9 hZ9 hK9 hb9 hB9;go_wp2_with fail
  clear t0 t1 t2 t3 y0 y1 y2 y3;generalize (r (r (r (r w9 ⟨w.heap.size, 0, U⟩ (E J 0)) ⟨w.heap.size, 1, U⟩ (E J 0)) ⟨w.heap.size, 2, U⟩ (E J 0)) ⟨w.heap.size, 3, U⟩ (G U 0 0)) = Z9 at *;refine bodyPost_ret (v := .tuple #[.agg #[E J 0, E J 0, E J 0, G U 0 0], E J 7]) ?_ rfl ⟨G U 0 0, by rw [HE.out]; rfl, ⟨U, 0, by rw [HE.out]; rfl, by rw [HE.out]; exact kaa rfl⟩, HF9.out⟩;simp [results, Try.results47, go_sem, e0, e1, e2, e3]
 have heq : (((zce body : Nat) : Int) != 256 * (z0 : Int) + (z1 : Int)) = false := by
  have : ((zce body : Nat) : Int) = 256 * (z0 : Int) + (z1 : Int) := by omega
  simp [this]
 rw [heq];have HR2 := HR.out;rw [if_pos hsum] at HR2;have HR3 : Q _ := HR2;clear HR2 HR heq hsum hslt hbb hlq;have hlb := Nat.lt_of_lt_of_le hlt hb2.size;have hM0 := zi W2 (T #[E J (yk : Nat), E J 0, E J 0, G U 0 0] 43);have hM1 : Blk (W2.alloc (T #[E J (yk : Nat), E J 0, E J 0, G U 0 0] 43)) W2.heap.size #[E J (yk : Nat), E J 0, E J 0, G U 0 0] 43 := Blk.new _ _ _;go_upto_region 8 with fail
 generalize W2.alloc (T #[E J (yk : Nat), E J 0, E J 0, G U 0 0] 43) = W3 at *;have H3 := zD (hB2.below hM0 hB2.lt) (hb2.trans (hM0.mono hb2.size)) hM1 hB2.lt;clear hM0 hM1 hB2 hb2 HZ vk hlb;obtain ⟨RES, HRES⟩ : ∃ RES, Q (RES = zar 12 [] 3 ld) := ⟨_, rfl⟩;rw [← HRES.out] at HR3;have hcq : ¬ (cap - 1 = 0) := by omega
 have hcq1 := hq1;have hcq2 : q ≤ cap := by omega
 go_wp2;clear hcq hcq1 hcq2;go_loopw [7, 8, 9] (fun lv nv wv w' => ∃ (f : Nat) (ns : List Int) (x : Nat) (l' : List Nat) (o' c' : Nat) (na : Option Addr) (nc nn ln : Nat), lv = G (some ⟨b, o', U⟩) ln c' ∧ nv = G na nn nc ∧ wv = E J (3 + 2 * x : Nat) ∧ x ≤ 4 ∧ nn ≤ 3 + 2 * x ∧ (nn < 3 → x = 0) ∧ ln ≤ c' ∧ c' ≤ 9223372036854775807 ∧ f + nn = 12 ∧ Q (zar f ns (3 + 2 * x) l' = RES ∧ Byt l' ∧ (∀ i (h : i < l'.length), w.cell? ⟨b, o' + i, U⟩ = some (E .u8 (l'[i] : Nat))) ∧ zd 3 1 zv w' W3.heap.size (G na nn nc) ns ∧ Z W3.heap.size W3 w' ∧ nn = ns.length ∧ ln = l'.length)) (fun _ nv _ _ => 12 - lenV nv)
 case atStart =>
  have e := HD.out.1;refine ⟨12, [], 0, ld, o + 1, cap - 1, none, 0, 0, q - 1, rfl, rfl, rfl, by omega, by simp, fun _ => rfl, by omega, by omega, rfl, HRES.out.symm, HD.out.2.1, HD.out.2.2.1, zd.nil _ _, Below.refl _ _, rfl, e.symm⟩
 case round =>
  obtain ⟨f, ns, x, l', o', c', na, nc, nn, ln, rfl, rfl, rfl, hx4, hnx, hx0, hlc, hcm, hf, hH⟩ := hrel;by_cases hlt2 : nn < 3 + 2 * x
  ·obtain ⟨f', rfl⟩ : ∃ f', f = f' + 1 := ⟨f - 1, by omega⟩
   have HU : Q (RES = if (zt l').2.2 = 0 then (if ns.length = 2 then (if (zt l').1 < 0 ∨ 4 < (zt l').1 then (ns, l', 5) else zar f' (ns ++ [(zt l').1]) (3 + 2 * (zt l').1.toNat) (l'.drop (zt l').2.1)) else zar f' (ns ++ [(zt l').1]) (3 + 2 * x) (l'.drop (zt l').2.1)) else (ns, l', (zt l').2.2)) := by
    have h := hH.out.1;have hnn := hH.out.2.2.2.2.2.1;show _ = _
    rw [← h];conv => lhs; unfold zar
    rw [if_pos (by omega)]
   have hle := getB_le l';rw [← hH.out.2.2.2.2.2.2] at hle;have hbW := H3.out.2.1.trans (hH.out.2.2.2.2.1.mono H3.out.2.1.size);have HG := zm8 (some ⟨b, o', U⟩) l' c' ln wr hH.out.2.2.2.2.2.2 (by have := hH.out.2.2.2.2.2.2; omega) hH.out.2.1 (Or.inr ⟨b, o', rfl, Nat.lt_of_lt_of_le hlt hbW.size, fun i hi => (hbW.cell (p := ⟨b, o' + i, U⟩) hlt).trans (hH.out.2.2.1 i hi)⟩);have HZ := zB (H3.out.1.below hH.out.2.2.2.2.1 H3.out.1.lt) hbW;generalize zt l' = g at *;obtain ⟨z, j, y⟩ := g;simp only at HG hle HU
   clear hbW;go_wp2_with fail
   refine HG.mono ?_;rintro e w1 ⟨rfl, rfl⟩;clear HG;by_cases hy : y = 0
   ·subst hy
    have HU2 := HU.out;rw [if_pos rfl] at HU2;have HU3 := zA HU2;clear HU2 HU;have HO := zC hH.out.2.2.2.1 hH.out.2.2.2.2.1 hH.out.2.2.2.2.2.1;have hs1 := HO.out.2.1.size
    have HDr : Q (Byt (l'.drop j) ∧ (∀ i (h : i < (l'.drop j).length), w.cell? ⟨b, o' + j + i, U⟩ = some (E .u8 ((l'.drop j)[i] : Nat))) ∧ (l'.drop j).length = ln - j) := by
     refine ⟨fun c hc => hH.out.2.1 c (List.mem_of_mem_drop hc), fun i hi => ?_, by rw [List.length_drop, hH.out.2.2.2.2.2.2]⟩;have hi' : j + i < l'.length := by rw [List.length_drop] at hi; omega
     have := hH.out.2.2.1 (j + i) hi';have e : (l'.drop j)[i] = l'[j + i] := by simp
     rw [Nat.add_assoc, e];exact this
    clear hH HZ;by_cases hcj : c' = j
    ·obtain rfl : ln = j := by omega
     subst hcj;by_cases h2 : nn = 2
     ·subst h2
      have HU4 : Q (RES = if z < 0 ∨ 4 < z then (ns, l', 5) else zar f' (ns ++ [z]) (3 + 2 * z.toNat) (l'.drop c')) := by
       have h := HU3.out;rw [if_pos HO.out.2.2.symm] at h;exact h
      clear HU3;by_cases hz : z < 0 ∨ 4 < z
      ·have HE : Q (zcw l = (m0, 5)) := by
        have h := HU4.out;rw [if_pos hz] at h;show _ = _
        rw [HR3.out, h];rfl
       clear HU4 HR3;by_cases hza : z < 0
       ·clear hz
        go_wp2_with (at_builtin; refine zbj zai zcx Try.underlying36 zcn rfl (by decide) _ rfl _ _ rfl W3.heap.size _ ns rfl (HO.out.1.below (zi w1 _) (kab _)) (some ⟨w1.heap.size, 0, U⟩) 1 1 [z] rfl rfl (zk.one (Blk.new w1 _ _) rfl) (by have := HO.out.2.2; unfold maxLen; simp; omega) (by have := HO.out.2.2; simp; omega) (by simp; omega) ?_; intro a4 n4 c4 w4 jv hn4 jy jQ; obtain rfl : n4 = 3 := (by have := HO.out.2.2; simp at hn4; omega); clear hn4 jQ; have H4 : Q (zd 3 1 zv w4 W3.heap.size (G a4 _ c4) (ns ++ [z]) ∧ Z W3.heap.size W3 w4) := ⟨jv, (HO.out.2.1.alloc hs1 _).grown jy (by simp; omega) HO.out.1.base⟩; clear jv jy)
        have HZ := zB (H3.out.1.below H4.out.2 H3.out.1.lt) (H3.out.2.1.trans (H4.out.2.mono H3.out.2.1.size));go_wp2_with fail
        refine (zfl 5 w4).mono ?_;rintro e9 w9 ⟨rfl, hb9⟩;have hz9 := HZ.out.1.below hb9 HZ.out.1.lt;obtain ⟨t0, t1, t2, t3⟩ := hz9.cells4;obtain ⟨y0, y1, y2, y3⟩ := hz9.free4;have hzl := hz9.lt;obtain ⟨hZ9, hK9⟩ := put4 hz9 (E J 0) (E J 0) (E J 0) (G U 0 0);have hB9 := HZ.out.2.trans (hb9.mono HZ.out.2.size);have HF9 := zA (hB9.trans (hK9.below hB9.size (fun q hq => by omega)));obtain ⟨e0, e1, e2, e3⟩ := hZ9.cells4;clear hz9 hZ9 hK9 hb9 hB9;go_wp2_with fail
        clear t0 t1 t2 t3 y0 y1 y2 y3;generalize (r (r (r (r w9 ⟨w.heap.size, 0, U⟩ (E J 0)) ⟨w.heap.size, 1, U⟩ (E J 0)) ⟨w.heap.size, 2, U⟩ (E J 0)) ⟨w.heap.size, 3, U⟩ (G U 0 0)) = Z9 at *;refine bodyPost_ret (v := .tuple #[.agg #[E J 0, E J 0, E J 0, G U 0 0], E J 5]) ?_ rfl ⟨G U 0 0, by rw [HE.out]; rfl, ⟨U, 0, by rw [HE.out]; rfl, by rw [HE.out]; exact kaa rfl⟩, HF9.out⟩;simp [results, Try.results47, go_sem, e0, e1, e2, e3]
       ·have hzb2 : 4 < z := by omega
        clear hz;go_wp2_with (at_builtin; refine zbj zai zcx Try.underlying36 zcn rfl (by decide) _ rfl _ _ rfl W3.heap.size _ ns rfl (HO.out.1.below (zi w1 _) (kab _)) (some ⟨w1.heap.size, 0, U⟩) 1 1 [z] rfl rfl (zk.one (Blk.new w1 _ _) rfl) (by have := HO.out.2.2; unfold maxLen; simp; omega) (by have := HO.out.2.2; simp; omega) (by simp; omega) ?_; intro a4 n4 c4 w4 jv hn4 jy jQ; obtain rfl : n4 = 3 := (by have := HO.out.2.2; simp at hn4; omega); clear hn4 jQ; have H4 : Q (zd 3 1 zv w4 W3.heap.size (G a4 _ c4) (ns ++ [z]) ∧ Z W3.heap.size W3 w4) := ⟨jv, (HO.out.2.1.alloc hs1 _).grown jy (by simp; omega) HO.out.1.base⟩; clear jv jy)
        have HZ := zB (H3.out.1.below H4.out.2 H3.out.1.lt) (H3.out.2.1.trans (H4.out.2.mono H3.out.2.1.size));go_wp2_with fail
        refine (zfl 5 w4).mono ?_;rintro e9 w9 ⟨rfl, hb9⟩;have hz9 := HZ.out.1.below hb9 HZ.out.1.lt;obtain ⟨t0, t1, t2, t3⟩ := hz9.cells4;obtain ⟨y0, y1, y2, y3⟩ := hz9.free4;have hzl := hz9.lt;obtain ⟨hZ9, hK9⟩ := put4 hz9 (E J 0) (E J 0) (E J 0) (G U 0 0);have hB9 := HZ.out.2.trans (hb9.mono HZ.out.2.size);have HF9 := zA (hB9.trans (hK9.below hB9.size (fun q hq => by omega)));obtain ⟨e0, e1, e2, e3⟩ := hZ9.cells4;clear hz9 hZ9 hK9 hb9 hB9;go_wp2_with fail
        clear t0 t1 t2 t3 y0 y1 y2 y3;generalize (r (r (r (r w9 ⟨w.heap.size, 0, U⟩ (E J 0)) ⟨w.heap.size, 1, U⟩ (E J 0)) ⟨w.heap.size, 2, U⟩ (E J 0)) ⟨w.heap.size, 3, U⟩ (G U 0 0)) = Z9 at *;refine bodyPost_ret (v := .tuple #[.agg #[E J 0, E J 0, E J 0, G U 0 0], E J 5]) ?_ rfl ⟨G U 0 0, by rw [HE.out]; rfl, ⟨U, 0, by rw [HE.out]; rfl, by rw [HE.out]; exact kaa rfl⟩, HF9.out⟩;simp [results, Try.results47, go_sem, e0, e1, e2, e3]
      ·have HU5 : Q (RES = zar f' (ns ++ [z]) (3 + 2 * z.toNat) (l'.drop c')) := by
        have h := HU4.out;rw [if_neg hz] at h;exact h
       have hza : ¬ z < 0 := by omega
       have hzb2 : ¬ 4 < z := by omega
       clear HU4 hz;go_wp2_with (at_builtin; refine zbj zai zcx Try.underlying36 zcn rfl (by decide) _ rfl _ _ rfl W3.heap.size _ ns rfl (HO.out.1.below (zi w1 _) (kab _)) (some ⟨w1.heap.size, 0, U⟩) 1 1 [z] rfl rfl (zk.one (Blk.new w1 _ _) rfl) (by have := HO.out.2.2; unfold maxLen; simp; omega) (by have := HO.out.2.2; simp; omega) (by simp; omega) ?_; intro a4 n4 c4 w4 jv hn4 jy jQ; obtain rfl : n4 = 3 := (by have := HO.out.2.2; simp at hn4; omega); clear hn4 jQ; have H4 : Q (zd 3 1 zv w4 W3.heap.size (G a4 _ c4) (ns ++ [z]) ∧ Z W3.heap.size W3 w4) := ⟨jv, (HO.out.2.1.alloc hs1 _).grown jy (by simp; omega) HO.out.1.base⟩; clear jv jy)
       go_roundw
       case rel => exact ⟨f', ns ++ [z], z.toNat, l'.drop c', o', 0, a4, c4, 3, 0, rfl, rfl, by go_num, by omega, by omega, by omega, by omega, by omega, by omega, ⟨HU5.out.symm, HDr.out.1, fun i hi => by have := HDr.out.2.2; omega, H4.out.1, H4.out.2, by have := HO.out.2.2; simp; omega, by have := HDr.out.2.2; omega⟩⟩
       case measure => simp [lenV] <;> omega
     ·have HU5 : Q (RES = zar f' (ns ++ [z]) (3 + 2 * x) (l'.drop c')) := by
       have h := HU3.out;rw [if_neg (fun h' => h2 (by rw [HO.out.2.2]; exact h'))] at h;exact h
      clear HU3;have h2' : ¬ nn + 1 = 3 := by omega
      go_wp2_with (at_builtin; refine zbj zai zcx Try.underlying36 zcn rfl (by decide) _ rfl _ _ rfl W3.heap.size _ ns rfl (HO.out.1.below (zi w1 _) (kab _)) (some ⟨w1.heap.size, 0, U⟩) 1 1 [z] rfl rfl (zk.one (Blk.new w1 _ _) rfl) (by have := HO.out.2.2; unfold maxLen; simp; omega) (by have := HO.out.2.2; simp; omega) (by simp; omega) ?_; intro a4 n4 c4 w4 jv hn4 jy jQ; obtain rfl : n4 = nn + 1 := (by have := HO.out.2.2; simp at hn4; omega); clear hn4 jQ; have H4 : Q (zd 3 1 zv w4 W3.heap.size (G a4 _ c4) (ns ++ [z]) ∧ Z W3.heap.size W3 w4) := ⟨jv, (HO.out.2.1.alloc hs1 _).grown jy (by simp; omega) HO.out.1.base⟩; clear jv jy)
      go_roundw
      case rel => exact ⟨f', ns ++ [z], x, l'.drop c', o', 0, a4, c4, nn + 1, 0, rfl, rfl, by go_num, by omega, by omega, by omega, by omega, by omega, by omega, ⟨HU5.out.symm, HDr.out.1, fun i hi => by have := HDr.out.2.2; omega, H4.out.1, H4.out.2, by have := HO.out.2.2; simp; omega, by have := HDr.out.2.2; omega⟩⟩
      case measure => simp [lenV] <;> omega
    ·have hcj2 : ¬ c' - j = 0 := by omega
     by_cases h2 : nn = 2
     ·subst h2
      have HU4 : Q (RES = if z < 0 ∨ 4 < z then (ns, l', 5) else zar f' (ns ++ [z]) (3 + 2 * z.toNat) (l'.drop j)) := by
       have h := HU3.out;rw [if_pos HO.out.2.2.symm] at h;exact h
      clear HU3;by_cases hz : z < 0 ∨ 4 < z
      ·have HE : Q (zcw l = (m0, 5)) := by
        have h := HU4.out;rw [if_pos hz] at h;show _ = _
        rw [HR3.out, h];rfl
       clear HU4 HR3;by_cases hza : z < 0
       ·clear hz
        go_wp2_with (at_builtin; refine zbj zai zcx Try.underlying36 zcn rfl (by decide) _ rfl _ _ rfl W3.heap.size _ ns rfl (HO.out.1.below (zi w1 _) (kab _)) (some ⟨w1.heap.size, 0, U⟩) 1 1 [z] rfl rfl (zk.one (Blk.new w1 _ _) rfl) (by have := HO.out.2.2; unfold maxLen; simp; omega) (by have := HO.out.2.2; simp; omega) (by simp; omega) ?_; intro a4 n4 c4 w4 jv hn4 jy jQ; obtain rfl : n4 = 3 := (by have := HO.out.2.2; simp at hn4; omega); clear hn4 jQ; have H4 : Q (zd 3 1 zv w4 W3.heap.size (G a4 _ c4) (ns ++ [z]) ∧ Z W3.heap.size W3 w4) := ⟨jv, (HO.out.2.1.alloc hs1 _).grown jy (by simp; omega) HO.out.1.base⟩; clear jv jy)
        have HZ := zB (H3.out.1.below H4.out.2 H3.out.1.lt) (H3.out.2.1.trans (H4.out.2.mono H3.out.2.1.size));go_wp2_with fail
        refine (zfl 5 w4).mono ?_;rintro e9 w9 ⟨rfl, hb9⟩;have hz9 := HZ.out.1.below hb9 HZ.out.1.lt;obtain ⟨t0, t1, t2, t3⟩ := hz9.cells4;obtain ⟨y0, y1, y2, y3⟩ := hz9.free4;have hzl := hz9.lt;obtain ⟨hZ9, hK9⟩ := put4 hz9 (E J 0) (E J 0) (E J 0) (G U 0 0);have hB9 := HZ.out.2.trans (hb9.mono HZ.out.2.size);have HF9 := zA (hB9.trans (hK9.below hB9.size (fun q hq => by omega)));obtain ⟨e0, e1, e2, e3⟩ := hZ9.cells4;clear hz9 hZ9 hK9 hb9 hB9;go_wp2_with fail
        clear t0 t1 t2 t3 y0 y1 y2 y3;generalize (r (r (r (r w9 ⟨w.heap.size, 0, U⟩ (E J 0)) ⟨w.heap.size, 1, U⟩ (E J 0)) ⟨w.heap.size, 2, U⟩ (E J 0)) ⟨w.heap.size, 3, U⟩ (G U 0 0)) = Z9 at *;refine bodyPost_ret (v := .tuple #[.agg #[E J 0, E J 0, E J 0, G U 0 0], E J 5]) ?_ rfl ⟨G U 0 0, by rw [HE.out]; rfl, ⟨U, 0, by rw [HE.out]; rfl, by rw [HE.out]; exact kaa rfl⟩, HF9.out⟩;simp [results, Try.results47, go_sem, e0, e1, e2, e3]
       ·have hzb2 : 4 < z := by omega
        clear hz;go_wp2_with (at_builtin; refine zbj zai zcx Try.underlying36 zcn rfl (by decide) _ rfl _ _ rfl W3.heap.size _ ns rfl (HO.out.1.below (zi w1 _) (kab _)) (some ⟨w1.heap.size, 0, U⟩) 1 1 [z] rfl rfl (zk.one (Blk.new w1 _ _) rfl) (by have := HO.out.2.2; unfold maxLen; simp; omega) (by have := HO.out.2.2; simp; omega) (by simp; omega) ?_; intro a4 n4 c4 w4 jv hn4 jy jQ; obtain rfl : n4 = 3 := (by have := HO.out.2.2; simp at hn4; omega); clear hn4 jQ; have H4 : Q (zd 3 1 zv w4 W3.heap.size (G a4 _ c4) (ns ++ [z]) ∧ Z W3.heap.size W3 w4) := ⟨jv, (HO.out.2.1.alloc hs1 _).grown jy (by simp; omega) HO.out.1.base⟩; clear jv jy)
        have HZ := zB (H3.out.1.below H4.out.2 H3.out.1.lt) (H3.out.2.1.trans (H4.out.2.mono H3.out.2.1.size));go_wp2_with fail
        refine (zfl 5 w4).mono ?_;rintro e9 w9 ⟨rfl, hb9⟩;have hz9 := HZ.out.1.below hb9 HZ.out.1.lt;obtain ⟨t0, t1, t2, t3⟩ := hz9.cells4;obtain ⟨y0, y1, y2, y3⟩ := hz9.free4;have hzl := hz9.lt;obtain ⟨hZ9, hK9⟩ := put4 hz9 (E J 0) (E J 0) (E J 0) (G U 0 0);have hB9 := HZ.out.2.trans (hb9.mono HZ.out.2.size);have HF9 := zA (hB9.trans (hK9.below hB9.size (fun q hq => by omega)));obtain ⟨e0, e1, e2, e3⟩ := hZ9.cells4;clear hz9 hZ9 hK9 hb9 hB9;go_wp2_with fail
        clear t0 t1 t2 t3 y0 y1 y2 y3;generalize (r (r (r (r w9 ⟨w.heap.size, 0, U⟩ (E J 0)) ⟨w.heap.size, 1, U⟩ (E J 0)) ⟨w.heap.size, 2, U⟩ (E J 0)) ⟨w.heap.size, 3, U⟩ (G U 0 0)) = Z9 at *;refine bodyPost_ret (v := .tuple #[.agg #[E J 0, E J 0, E J 0, G U 0 0], E J 5]) ?_ rfl ⟨G U 0 0, by rw [HE.out]; rfl, ⟨U, 0, by rw [HE.out]; rfl, by rw [HE.out]; exact kaa rfl⟩, HF9.out⟩;simp [results, Try.results47, go_sem, e0, e1, e2, e3]
      ·have HU5 : Q (RES = zar f' (ns ++ [z]) (3 + 2 * z.toNat) (l'.drop j)) := by
        have h := HU4.out;rw [if_neg hz] at h;exact h
       have hza : ¬ z < 0 := by omega
       have hzb2 : ¬ 4 < z := by omega
       clear HU4 hz;go_wp2_with (at_builtin; refine zbj zai zcx Try.underlying36 zcn rfl (by decide) _ rfl _ _ rfl W3.heap.size _ ns rfl (HO.out.1.below (zi w1 _) (kab _)) (some ⟨w1.heap.size, 0, U⟩) 1 1 [z] rfl rfl (zk.one (Blk.new w1 _ _) rfl) (by have := HO.out.2.2; unfold maxLen; simp; omega) (by have := HO.out.2.2; simp; omega) (by simp; omega) ?_; intro a4 n4 c4 w4 jv hn4 jy jQ; obtain rfl : n4 = 3 := (by have := HO.out.2.2; simp at hn4; omega); clear hn4 jQ; have H4 : Q (zd 3 1 zv w4 W3.heap.size (G a4 _ c4) (ns ++ [z]) ∧ Z W3.heap.size W3 w4) := ⟨jv, (HO.out.2.1.alloc hs1 _).grown jy (by simp; omega) HO.out.1.base⟩; clear jv jy)
       go_roundw
       case rel => exact ⟨f', ns ++ [z], z.toNat, l'.drop j, o' + j, c' - j, a4, c4, 3, ln - j, rfl, rfl, by go_num, by omega, by omega, by omega, by omega, by omega, by omega, ⟨HU5.out.symm, HDr.out.1, HDr.out.2.1, H4.out.1, H4.out.2, by have := HO.out.2.2; simp; omega, by have := HDr.out.2.2; omega⟩⟩
       case measure => simp [lenV] <;> omega
     ·have HU5 : Q (RES = zar f' (ns ++ [z]) (3 + 2 * x) (l'.drop j)) := by
       have h := HU3.out;rw [if_neg (fun h' => h2 (by rw [HO.out.2.2]; exact h'))] at h;exact h
      clear HU3;have h2' : ¬ nn + 1 = 3 := by omega
      go_wp2_with (at_builtin; refine zbj zai zcx Try.underlying36 zcn rfl (by decide) _ rfl _ _ rfl W3.heap.size _ ns rfl (HO.out.1.below (zi w1 _) (kab _)) (some ⟨w1.heap.size, 0, U⟩) 1 1 [z] rfl rfl (zk.one (Blk.new w1 _ _) rfl) (by have := HO.out.2.2; unfold maxLen; simp; omega) (by have := HO.out.2.2; simp; omega) (by simp; omega) ?_; intro a4 n4 c4 w4 jv hn4 jy jQ; obtain rfl : n4 = nn + 1 := (by have := HO.out.2.2; simp at hn4; omega); clear hn4 jQ; have H4 : Q (zd 3 1 zv w4 W3.heap.size (G a4 _ c4) (ns ++ [z]) ∧ Z W3.heap.size W3 w4) := ⟨jv, (HO.out.2.1.alloc hs1 _).grown jy (by simp; omega) HO.out.1.base⟩; clear jv jy)
      go_roundw
      case rel => exact ⟨f', ns ++ [z], x, l'.drop j, o' + j, c' - j, a4, c4, nn + 1, ln - j, rfl, rfl, by go_num, by omega, by omega, by omega, by omega, by omega, by omega, ⟨HU5.out.symm, HDr.out.1, HDr.out.2.1, H4.out.1, H4.out.2, by have := HO.out.2.2; simp; omega, by have := HDr.out.2.2; omega⟩⟩
      case measure => simp [lenV] <;> omega
   ·have HE : Q (zcw l = (m0, y)) := by
     have h := HU.out;rw [if_neg hy] at h;show _ = _
     rw [HR3.out, h];rw [if_neg hy]
    have hy' : (y != 0) = true := by simpa using hy
    clear HU HR3 hy;go_wp2_with fail
    refine (zfl y w1).mono ?_;rintro e9 w9 ⟨rfl, hb9⟩;have hz9 := HZ.out.1.below hb9 HZ.out.1.lt;obtain ⟨t0, t1, t2, t3⟩ := hz9.cells4;obtain ⟨y0, y1, y2, y3⟩ := hz9.free4;have hzl := hz9.lt;obtain ⟨hZ9, hK9⟩ := put4 hz9 (E J 0) (E J 0) (E J 0) (G U 0 0);have hB9 := HZ.out.2.trans (hb9.mono HZ.out.2.size);have HF9 := zA (hB9.trans (hK9.below hB9.size (fun q hq => by omega)));obtain ⟨e0, e1, e2, e3⟩ := hZ9.cells4;clear hz9 hZ9 hK9 hb9 hB9;go_wp2_with fail
    clear t0 t1 t2 t3 y0 y1 y2 y3;generalize (r (r (r (r w9 ⟨w.heap.size, 0, U⟩ (E J 0)) ⟨w.heap.size, 1, U⟩ (E J 0)) ⟨w.heap.size, 2, U⟩ (E J 0)) ⟨w.heap.size, 3, U⟩ (G U 0 0)) = Z9 at *;refine bodyPost_ret (v := .tuple #[.agg #[E J 0, E J 0, E J 0, G U 0 0], E J y]) ?_ rfl ⟨G U 0 0, by rw [HE.out]; rfl, ⟨U, 0, by rw [HE.out]; rfl, by rw [HE.out]; exact kaa rfl⟩, HF9.out⟩;simp [results, Try.results47, go_sem, e0, e1, e2, e3]
  ·obtain rfl : nn = 3 + 2 * x := by omega
   obtain ⟨f', rfl⟩ : ∃ f', f = f' + 1 := ⟨f - 1, by omega⟩;obtain ⟨g1, g2, g3, g4, g5, g6, g7⟩ := hH.out
   have hR2 : RES = (ns, l', 0) := by
    rw [← g1];conv => lhs; unfold zar
    rw [if_neg (by omega)]
   rw [hR2] at HR3;have hbW := H3.out.2.1.trans (g5.mono H3.out.2.1.size);have HZ := zB (H3.out.1.below g5 H3.out.1.lt) hbW;by_cases hl0 : 0 < ln
   ·have HE : Q (zcw l = (m0, 2)) := by
     have h := HR3.out;simp only [if_true] at h
     rw [if_pos (by omega)] at h;exact h
    clear HR3 hR2 g1 g2 g3 g4 g5 g6 g7 hbW hH;go_wp2_with fail
    refine (zfl 2 wr).mono ?_;rintro e9 w9 ⟨rfl, hb9⟩;have hz9 := HZ.out.1.below hb9 HZ.out.1.lt;obtain ⟨t0, t1, t2, t3⟩ := hz9.cells4;obtain ⟨y0, y1, y2, y3⟩ := hz9.free4;have hzl := hz9.lt;obtain ⟨hZ9, hK9⟩ := put4 hz9 (E J 0) (E J 0) (E J 0) (G U 0 0);have hB9 := HZ.out.2.trans (hb9.mono HZ.out.2.size);have HF9 := zA (hB9.trans (hK9.below hB9.size (fun q hq => by omega)));obtain ⟨e0, e1, e2, e3⟩ := hZ9.cells4;clear hz9 hZ9 hK9 hb9 hB9;go_wp2_with fail
    clear t0 t1 t2 t3 y0 y1 y2 y3;generalize (r (r (r (r w9 ⟨w.heap.size, 0, U⟩ (E J 0)) ⟨w.heap.size, 1, U⟩ (E J 0)) ⟨w.heap.size, 2, U⟩ (E J 0)) ⟨w.heap.size, 3, U⟩ (G U 0 0)) = Z9 at *;refine bodyPost_ret (v := .tuple #[.agg #[E J 0, E J 0, E J 0, G U 0 0], E J 2]) ?_ rfl ⟨G U 0 0, by rw [HE.out]; rfl, ⟨U, 0, by rw [HE.out]; rfl, by rw [HE.out]; exact kaa rfl⟩, HF9.out⟩;simp [results, Try.results47, go_sem, e0, e1, e2, e3]
   ·have hl0' : ln = 0 := by omega
    have HR4 := HR3.out;simp only [if_true] at HR4
    rw [if_neg (by omega)] at HR4;obtain ⟨d0, h0, c0, t, rfl⟩ := three_of (ns := ns) (by omega);have ht : t.length = 2 * x := by simp at g6; omega
    have hg0 : (d0 :: h0 :: c0 :: t).getD 0 0 = d0 := rfl;have hg1 : (d0 :: h0 :: c0 :: t).getD 1 0 = h0 := rfl;have hg3 : (d0 :: h0 :: c0 :: t).drop 3 = t := rfl;rw [hg0, hg1, hg3] at HR4;have HR5 : Q (zcw l = if zdo (((yk : Nat) : Int), d0, h0, zbt h0 t) = 0 then ((((yk : Nat) : Int), d0, h0, zbt h0 t), 0) else (m0, zdo (((yk : Nat) : Int), d0, h0, zbt h0 t))) := HR4;have hM := H3.out.2.2.1.below g5 H3.out.2.2.1.lt;have jx := g4;obtain ⟨g', cs, rfl, hgb⟩ := g4.first (by simp);have jX := (g4.at zai).1
    have hcells : ∀ i (h : i < (d0 :: h0 :: c0 :: t).length), wr.cell? ⟨g', i, U⟩ = some (E J (d0 :: h0 :: c0 :: t)[i]) := fun i hi => by
     rcases jX with h0' | ⟨b2, o2, he, hb2, hc2⟩
     ·cases h0'
     ·cases he
      have := hc2 i hi 0 _ rfl;rwa [Nat.mul_one, Nat.add_zero, Nat.zero_add] at this
    have hgM : g' ≠ W2.heap.size := fun e => by
     have h1 := hgb;subst e;unfold Blk at h1 hM
     rw [hM] at h1;injection h1 with h1
     injection h1 with _ h2 _
     exact absurd h2 (by decide)
    have hgl := hgb.lt;have HG := zD hcells ht hgM hgl;have v0 := hcells 0 (by simp);have v1 := hcells 1 (by simp);simp only [List.getElem_cons_zero, List.getElem_cons_succ] at v0 v1
    have m1 := hM.cell 1;have m2 := hM.cell 2;have k1 := hM.free 1;have k2 := hM.free 2;simp only [kag, kah, kai] at m1 m2
    have hMl := hM.lt;have HM := zA hM;clear HR3 HR4 hR2 g1 g2 g3 g4 g5 g6 g7 hH ht hg0 hg1 hg3 hM jx hgb jX hcells hl0' hbW;go_upto_region 23 with fail
    go_cut [] (fun wx => Q (Blk wx W2.heap.size #[E J (yk : Nat), E J d0, E J h0, G U 0 0] 43 ∧ zg (fun q => q = W2.heap.size) wr wx))
    case first =>
     go_region
     all_goals
      go_wp2_with fail
      go_meet
      case rel =>
       first
       | exact ⟨(HM.out.set 1 _).set 2 _, (((zg.refl (fun q => q = W2.heap.size) wr).setCell (p := ⟨W2.heap.size, 1, U⟩) rfl _).setCell (p := ⟨W2.heap.size, 2, U⟩) rfl _).drew⟩
       | exact ⟨(HM.out.set 2 _).set 1 _, (((zg.refl (fun q => q = W2.heap.size) wr).setCell (p := ⟨W2.heap.size, 2, U⟩) rfl _).setCell (p := ⟨W2.heap.size, 1, U⟩) rfl _).drew⟩
    case rest =>
    clear v0 v1 m1 m2 k1 k2 hMl;obtain ⟨hB0, hK0⟩ := hcut.out;have hl2 := H3.out.2.2.2
    have HD2 : Q (Blk wc W2.heap.size #[E J (yk : Nat), E J d0, E J h0, G U 0 0] 43 ∧ Blk wc w.heap.size #[E J 0, E J 0, E J 0, G U 0 0] 43 ∧ Z w.heap.size w wc ∧ (∀ i (h : i < (d0 :: h0 :: c0 :: t).length), wc.cell? ⟨g', i, U⟩ = some (E J (d0 :: h0 :: c0 :: t)[i])) ∧ g' < wc.heap.size) :=
     ⟨hB0, HZ.out.1.keep hK0 (by omega), HZ.out.2.trans (hK0.below HZ.out.2.size (fun q hq => by omega)), fun i hi => (hK0.cell HG.out.2.2.2 HG.out.2.2.1).trans (HG.out.1 i hi), Nat.lt_of_lt_of_le HG.out.2.2.2 hK0.size⟩
    clear hcut hB0 hK0 HM;go_wp2;go_loopw [13] (fun iv w' => ∃ p : Nat, iv = E J (p : Nat) ∧ p ≤ 3 + 2 * x ∧ Q (∃ (j : Nat) (pa : Option Addr) (pn pc : Nat), p = 3 + 2 * j ∧ Blk w' W2.heap.size #[E J (yk : Nat), E J d0, E J h0, G pa pn pc] 43 ∧ zd 49 3 ze0 w' wc.heap.size (G pa pn pc) (zbt h0 (t.take (2 * j))) ∧ zg (fun q => q = W2.heap.size ∨ wc.heap.size ≤ q) wc w')) (fun iv _ => 3 + 2 * x - (intOf iv).toNat)
    case atStart => exact ⟨3, rfl, by omega, 0, U, 0, 0, rfl, HD2.out.1, by simpa [zbt] using zd.nil _ _, zg.refl _ _⟩
    case round =>
     obtain ⟨p, rfl, hpl, hH⟩ := hrel;obtain ⟨j, pa, pn, pc, hpj, hMb, hPo, hKp⟩ := hH.out;have hgr := Nat.lt_of_lt_of_le HD2.out.2.2.2.2 hKp.size
     have hgne : ¬ (g' = W2.heap.size ∨ wc.heap.size ≤ g') := fun h => by
      rcases h with h | h
      ·exact HG.out.2.2.1 h
      ·have := HD2.out.2.2.2.2; omega
     by_cases hlt3 : p < 3 + 2 * x
     ·have hjx : 2 * j + 1 < t.length := by have := HG.out.2.1; omega
      have hpt := zlo h0 t j hjx;have q0 := (hKp.cell (o := p) HD2.out.2.2.2.2 hgne).trans (HD2.out.2.2.2.1 p (by simp; have := HG.out.2.1; omega));have q1 := (hKp.cell (o := p + 1) HD2.out.2.2.2.2 hgne).trans (HD2.out.2.2.2.1 (p + 1) (by simp; have := HG.out.2.1; omega));have e0 : (d0 :: h0 :: c0 :: t)[p]'(by simp; have := HG.out.2.1; omega) = t[2 * j]'(by omega) := by subst hpj; simp [show 3 + 2 * j = 2 * j + 1 + 1 + 1 by omega]
      have e1 : (d0 :: h0 :: c0 :: t)[p + 1]'(by simp; have := HG.out.2.1; omega) = t[2 * j + 1]'hjx := by subst hpj; simp [show 3 + 2 * j + 1 = 2 * j + 1 + 1 + 1 + 1 by omega]
      rw [e0] at q0;rw [e1] at q1;clear e0 e1;have hpp : p + 1 < 3 + 2 * x := by have := HG.out.2.1; omega
      have jw : (zbt h0 (t.take (2 * j))).length ≤ 1000 := Nat.le_trans (zjr _ _) (by rw [List.length_take]; have := HG.out.2.1; omega);generalize t[2 * j]'(by omega) = uu at *;generalize t[2 * j + 1]'hjx = vv at *;have HW := zE hpj hMb hPo hKp hpt;have m3 := hMb.cell 3;have m2 := hMb.cell 2;simp only [kag, kah, kai] at m3 m2
      have hMl := hMb.lt;have hsc := hKp.size;have HSb : Q (∀ w', Z wr.heap.size wr w' → (w'.cell? ⟨g', p, U⟩ = some (E J uu) ∧ w'.cell? ⟨g', p + 1, U⟩ = some (E J vv) ∧ w'.cell? ⟨W2.heap.size, 2, U⟩ = some (E J h0))) := fun w' hb => ⟨(hb.cell (p := ⟨g', p, U⟩) hgr).trans q0, (hb.cell (p := ⟨g', p + 1, U⟩) hgr).trans q1, (hb.cell (p := ⟨W2.heap.size, 2, U⟩) hMl).trans m2⟩
      have hX1 : Z wr.heap.size wr wr.drew := (Below.refl _ _).drew;have hXA : Z wr.heap.size wr (wr.drew.alloc (T #[E J h0, E J uu, E J vv] 49)) := hX1.alloc hX1.size _;have hA1 : Z wr.heap.size wr (wr.alloc (T #[E J h0, E J uu, E J vv] 49)) := zi _ _;have hA2 := hA1.drew;have hpi1 : ¬ ((p : Int) < 0) := by omega
      have hpi2 : ¬ ((3 : Int) + 2 * x ≤ p) := by omega
      have hpi3 : ¬ ((p : Int) + 1 < 0) := by omega
      have hpi4 : ¬ ((3 : Int) + 2 * x ≤ p + 1) := by omega
      have hpi5 : ((p : Int) + 1).toNat = p + 1 := by omega
      have hpi6 : IntKind.i64.wrap ((p : Int) + 1) = p + 1 := by rw [kad]; omega
      have hpi7 : (p : Int) < 3 + 2 * x := by omega
      have hpi8 : (p : Int) + 1 < 3 + 2 * x := by omega
      have hpi9 : (0 : Int) ≤ p := by omega
      have hpi10 : (0 : Int) ≤ p + 1 := by omega
      clear hH hpj hMb hPo hKp hpt hjx;go_upto_region 27 with fail
      refine wp_region_held_drew (S := fun w' => (w'.cell? ⟨g', p, U⟩ = some (E J uu) ∧ w'.cell? ⟨g', p + 1, U⟩ = some (E J vv) ∧ w'.cell? ⟨W2.heap.size, 2, U⟩ = some (E J h0))) (by kernel_rfl) (HSb.out _ hX1) (fun jq => ?_);refine wpAnyH_take (i := 0) (oi := _) (v := ?_) rfl (by kernel_rfl) (by decide +kernel) (by decide +kernel) (fun _ _ _ h => h) (kaa ⟨by rfl, ?_⟩) jq ?_;rotate_left 1
      ·intro w hSw
       (try dsimp only at hSw)
       go_simp;try with_reducible rfl
      try simp only [Act.put, kac]
      refine wpAnyH_take (i := 2) (oi := _) (v := ?_) rfl (by kernel_rfl) (by decide +kernel) (by decide +kernel) (fun _ _ _ h => h) (kaa ⟨by rfl, ?_⟩) jq ?_;rotate_left 1
      ·intro w hSw
       (try dsimp only at hSw)
       go_simp;try with_reducible rfl
      try simp only [Act.put]
      refine wpAnyH_take (i := 3) (oi := _) (v := ?_) rfl (by kernel_rfl) (by decide +kernel) (by decide +kernel) (fun _ _ _ h => h) (kaa ⟨by rfl, ?_⟩) jq ?_;rotate_left 1
      ·intro w hSw
       (try dsimp only at hSw)
       go_simp;try with_reducible rfl
      try simp only [Act.put]
      refine wpAnyH_take (i := 4) (oi := _) (v := ?_) rfl (by kernel_rfl) (by decide +kernel) (by decide +kernel) (fun _ _ _ h => h) (kaa ⟨by rfl, ?_⟩) jq ?_;rotate_left 1
      ·intro w hSw
       (try dsimp only at hSw)
       go_simp;try with_reducible rfl
      try simp only [Act.put]
      refine wpAnyH_take (i := 5) (oi := _) (v := ?_) rfl (by kernel_rfl) (by decide +kernel) (by decide +kernel) (fun _ _ _ h => h) (kaa ⟨by rfl, ?_⟩) jq ?_;rotate_left 1
      ·intro w hSw
       (try dsimp only at hSw)
       go_simp;try with_reducible rfl
      try simp only [Act.put]
      refine wpAnyH_take (i := 6) (oi := _) (v := ?_) rfl (by kernel_rfl) (by decide +kernel) (by decide +kernel) (fun _ _ _ h => h) (kaa ⟨by rfl, ?_⟩) jq ?_;rotate_left 1
      ·intro w hSw
       (try dsimp only at hSw)
       go_simp;try with_reducible rfl
      try simp only [Act.put]
      refine wpAnyH_take (i := 7) (oi := _) (v := ?_) rfl (by kernel_rfl) (by decide +kernel) (by decide +kernel) (fun _ _ _ h => h) (kaa ⟨by rfl, ?_⟩) jq ?_;rotate_left 1
      ·intro w hSw
       (try dsimp only at hSw)
       go_simp;try with_reducible rfl
      try simp only [Act.put]
      refine wpAnyH_take (i := 8) (oi := _) (v := ?_) rfl (by kernel_rfl) (by decide +kernel) (by decide +kernel) (fun _ _ _ h => h) (kaa ⟨by rfl, ?_⟩) jq ?_;rotate_left 1
      ·intro w hSw
       (try dsimp only at hSw)
       go_simp;try with_reducible rfl
      try simp only [Act.put]
      refine wpAnyH_take (i := 9) (oi := _) (v := ?_) rfl (by kernel_rfl) (by decide +kernel) (by decide +kernel) (fun _ _ _ h => h) (kaa ⟨by rfl, ?_⟩) jq ?_;rotate_left 1
      ·intro w hSw
       (try dsimp only at hSw)
       go_simp;try with_reducible rfl
      try simp only [Act.put]
      refine wpAnyH_take (i := 10) (oi := _) (v := ?_) rfl (by kernel_rfl) (by decide +kernel) (by decide +kernel) (fun _ _ _ h => h) (kaa ⟨by rfl, ?_⟩) jq ?_;rotate_left 1
      ·intro w hSw
       (try dsimp only at hSw)
       go_simp;try with_reducible rfl
      try simp only [Act.put]
      refine wpAnyH_take (i := 11) (oi := _) (v := ?_) rfl (by kernel_rfl) (by decide +kernel) (by decide +kernel) (fun _ _ _ h => h) (kaa ⟨by rfl, ?_⟩) jq ?_;rotate_left 1
      ·intro w hSw
       (try dsimp only at hSw)
       go_simp;try with_reducible rfl
      try simp only [Act.put]
      refine wpAnyH_take (i := 12) (oi := _) (v := ?_) rfl (by kernel_rfl) (by decide +kernel) (by decide +kernel) (fun _ _ _ h => h) (kaa ⟨by rfl, ?_⟩) jq ?_;rotate_left 1
      ·intro w hSw
       (try dsimp only at hSw)
       go_simp;try with_reducible rfl
      try simp only [Act.put]
      refine wpAnyH_take (i := 13) (oi := _) (v := ?_) rfl (by kernel_rfl) (by decide +kernel) (by decide +kernel) (fun _ _ _ h => h) (kaa ⟨by rfl, ?_⟩) jq ?_;rotate_left 1
      ·intro w hSw
       (try dsimp only at hSw)
       go_simp;try with_reducible rfl
      try simp only [Act.put]
      refine wpAnyH_ready (rs := [1, 14]) (by kernel_rfl) (by simp) ?_;refine AllReadyH.cons (o := _) rfl (fun K hK => ?_) ?_
      ·go_simp
       refine hK.out _ _ (HSb.out _ hX1) (fun jq => ?_);clear hK K;try simp only [Act.put, kac, kae, kaf]
       refine wpAnyH_ready (rs := [14]) (by kernel_rfl) (by simp) ?_;refine AllReadyH.cons (o := _) rfl (fun K hK => ?_) AllReadyH.nil;go_simp;refine hK.out _ _ (HSb.out _ hXA) (fun jq => ?_);clear hK K;try simp only [Act.put, kac, kae, kaf]
       refine wpAnyH_ready (rs := [15]) (by kernel_rfl) (by simp) ?_;refine AllReadyH.cons (o := _) rfl (fun K hK => ?_) AllReadyH.nil;(refine zeu lenP oneP Try.underlying23 zh9 rfl (by decide) _ (by first | rfl | simp [Region.wanted, yielded]) (.tmp 117) (.tmp 130) rfl wc.heap.size (G pa pn pc) _ rfl (HW.out.2.2.1.below hXA (kab _)) (some ⟨wr.heap.size, 0, U⟩) 1 1 [(h0, uu, vv)] rfl rfl (zk.one (Blk.new wr.drew _ _) rfl) (by unfold maxLen; simp; omega) (by simp; omega) (by simp; omega) ?_; intro a5 n5 c5 w5 qv hn5 jJ hat5; have HM5 : Q (Blk w5 W2.heap.size #[E J (yk : Nat), E J d0, E J h0, G pa pn pc] 43) := ((HW.out.2.1.below hXA HW.out.2.1.lt).keptT jJ ((HW.out.2.2.1.below hXA (kab _)).grownT (by decide))); have HK5 : Q (zg (fun q => q = W2.heap.size ∨ wc.heap.size ≤ q) wc w5) := ((HW.out.2.2.2.1.trans (zg.ofBelow hXA (fun k h1 h2 => Or.inr (Nat.le_trans hsc h2)))).trans (zg.ofGrown jJ (fun k hk => Or.inr (HW.out.2.2.1.base k hk)))); have HS5 : Q (w5.cell? ⟨g', p, U⟩ = some (E J uu) ∧ w5.cell? ⟨g', p + 1, U⟩ = some (E J vv) ∧ w5.cell? ⟨W2.heap.size, 2, U⟩ = some (E J h0)) := ⟨(HK5.out.cell (o := p) HD2.out.2.2.2.2 hgne).trans ((HW.out.2.2.2.1.cell (o := p) HD2.out.2.2.2.2 hgne).symm.trans q0), (HK5.out.cell (o := p + 1) HD2.out.2.2.2.2 hgne).trans ((HW.out.2.2.2.1.cell (o := p + 1) HD2.out.2.2.2.2 hgne).symm.trans q1), HM5.out.cell 2⟩; have HK6 : Q (zg (fun q => q = W2.heap.size ∨ wc.heap.size ≤ q) wc (r w5 ⟨W2.heap.size, 3, U⟩ (G a5 n5 c5))) := HK5.out.setCell (p := ⟨W2.heap.size, 3, U⟩) (kaa rfl) _; have HS6 : Q ((r w5 ⟨W2.heap.size, 3, U⟩ (G a5 n5 c5)).cell? ⟨g', p, U⟩ = some (E J uu) ∧ (r w5 ⟨W2.heap.size, 3, U⟩ (G a5 n5 c5)).cell? ⟨g', p + 1, U⟩ = some (E J vv) ∧ (r w5 ⟨W2.heap.size, 3, U⟩ (G a5 n5 c5)).cell? ⟨W2.heap.size, 2, U⟩ = some (E J h0)) := ⟨(HK6.out.cell (o := p) HD2.out.2.2.2.2 hgne).trans ((HW.out.2.2.2.1.cell (o := p) HD2.out.2.2.2.2 hgne).symm.trans q0), (HK6.out.cell (o := p + 1) HD2.out.2.2.2.2 hgne).trans ((HW.out.2.2.2.1.cell (o := p + 1) HD2.out.2.2.2.2 hgne).symm.trans q1), (HM5.out.set 3 _).cell 2⟩; have n3 := HM5.out.cell 3; have k3 := HM5.out.free 3; simp only [kag, kah, kai] at n3; have HO6 : Q (zd 49 3 ze0 (r w5 ⟨W2.heap.size, 3, U⟩ (G a5 n5 c5)) wc.heap.size (G a5 n5 c5) (zbt h0 (t.take (2 * j)) ++ [(h0, uu, vv)])) := qv.setOther (a := ⟨W2.heap.size, 3, U⟩) HM5.out (by decide) _; have hM5l := HM5.out.lt; clear qv hn5 jJ hat5)
       refine hK.out _ _ HS5.out (fun jq => ?_);clear hK K;try simp only [Act.put, kac]
       refine wpAnyH_take (i := 16) (oi := _) (v := ?_) rfl (by kernel_rfl) (by decide +kernel) (by decide +kernel) (fun _ _ _ h => h) (kaa ⟨by rfl, ?_⟩) jq ?_;rotate_left 1
       ·intro w hSw
        (try dsimp only at hSw)
        go_simp;try with_reducible rfl
       try simp only [Act.put]
       refine wpAnyH_ready (rs := [17]) (by kernel_rfl) (by simp) ?_;refine AllReadyH.cons (o := _) rfl (fun K hK => ?_) AllReadyH.nil;go_simp;refine hK.out _ _ HS6.out (fun jq => ?_);clear hK K;try simp only [Act.put, kac, kae, kaf]
       refine wpAnyH_done (by kernel_rfl) ?_ _
       have HF : Q (∃ (j' : Nat) (pa : Option Addr) (pn pc : Nat), p + 2 = 3 + 2 * j' ∧ Blk (r w5 ⟨W2.heap.size, 3, U⟩ (G a5 n5 c5)) W2.heap.size #[E J (yk : Nat), E J d0, E J h0, G pa pn pc] 43 ∧ zd 49 3 ze0 (r w5 ⟨W2.heap.size, 3, U⟩ (G a5 n5 c5)) wc.heap.size (G pa pn pc) (zbt h0 (t.take (2 * j'))) ∧ zg (fun q => q = W2.heap.size ∨ wc.heap.size ≤ q) wc (r w5 ⟨W2.heap.size, 3, U⟩ (G a5 n5 c5))) :=
        ⟨j + 1, a5, n5, c5, by have := HW.out.1; omega, HM5.out.set 3 _, by rw [HW.out.2.2.2.2]; exact HO6.out, HK6.out⟩
       clear hpi1 hpi2 hpi3 hpi4 hpi5 hpi6 hpi7 hpi8 hpi9 hpi10 n3 k3 m3 m2 q0 q1 HM5 HK5 HS5 HK6 HS6 HO6;go_wp2;go_roundw
       case rel =>
        iterate 24 apply Exists.intro
        refine ⟨⟨p + 2, ?e1, by omega, HF⟩, ?e2⟩
        case e2 => rfl
        case e1 => go_num
       case measure => simp [intOf]; omega
      refine AllReadyH.cons (o := _) rfl (fun K hK => ?_) AllReadyH.nil
      ·go_simp
       refine hK.out _ _ (HSb.out _ hXA) (fun jq => ?_);clear hK K;try simp only [Act.put, kac, kae, kaf]
       refine wpAnyH_ready (rs := [1]) (by kernel_rfl) (by simp) ?_;refine AllReadyH.cons (o := _) rfl (fun K hK => ?_) AllReadyH.nil;go_simp;refine hK.out _ _ (HSb.out _ hXA) (fun jq => ?_);clear hK K;try simp only [Act.put, kac, kae, kaf]
       refine wpAnyH_ready (rs := [15]) (by kernel_rfl) (by simp) ?_;refine AllReadyH.cons (o := _) rfl (fun K hK => ?_) AllReadyH.nil;(refine zeu lenP oneP Try.underlying23 zh9 rfl (by decide) _ (by first | rfl | simp [Region.wanted, yielded]) (.tmp 117) (.tmp 130) rfl wc.heap.size (G pa pn pc) _ rfl (HW.out.2.2.1.below hXA (kab _)) (some ⟨wr.heap.size, 0, U⟩) 1 1 [(h0, uu, vv)] rfl rfl (zk.one (Blk.new wr.drew _ _) rfl) (by unfold maxLen; simp; omega) (by simp; omega) (by simp; omega) ?_; intro a5 n5 c5 w5 qv hn5 jJ hat5; have HM5 : Q (Blk w5 W2.heap.size #[E J (yk : Nat), E J d0, E J h0, G pa pn pc] 43) := ((HW.out.2.1.below hXA HW.out.2.1.lt).keptT jJ ((HW.out.2.2.1.below hXA (kab _)).grownT (by decide))); have HK5 : Q (zg (fun q => q = W2.heap.size ∨ wc.heap.size ≤ q) wc w5) := ((HW.out.2.2.2.1.trans (zg.ofBelow hXA (fun k h1 h2 => Or.inr (Nat.le_trans hsc h2)))).trans (zg.ofGrown jJ (fun k hk => Or.inr (HW.out.2.2.1.base k hk)))); have HS5 : Q (w5.cell? ⟨g', p, U⟩ = some (E J uu) ∧ w5.cell? ⟨g', p + 1, U⟩ = some (E J vv) ∧ w5.cell? ⟨W2.heap.size, 2, U⟩ = some (E J h0)) := ⟨(HK5.out.cell (o := p) HD2.out.2.2.2.2 hgne).trans ((HW.out.2.2.2.1.cell (o := p) HD2.out.2.2.2.2 hgne).symm.trans q0), (HK5.out.cell (o := p + 1) HD2.out.2.2.2.2 hgne).trans ((HW.out.2.2.2.1.cell (o := p + 1) HD2.out.2.2.2.2 hgne).symm.trans q1), HM5.out.cell 2⟩; have HK6 : Q (zg (fun q => q = W2.heap.size ∨ wc.heap.size ≤ q) wc (r w5 ⟨W2.heap.size, 3, U⟩ (G a5 n5 c5))) := HK5.out.setCell (p := ⟨W2.heap.size, 3, U⟩) (kaa rfl) _; have HS6 : Q ((r w5 ⟨W2.heap.size, 3, U⟩ (G a5 n5 c5)).cell? ⟨g', p, U⟩ = some (E J uu) ∧ (r w5 ⟨W2.heap.size, 3, U⟩ (G a5 n5 c5)).cell? ⟨g', p + 1, U⟩ = some (E J vv) ∧ (r w5 ⟨W2.heap.size, 3, U⟩ (G a5 n5 c5)).cell? ⟨W2.heap.size, 2, U⟩ = some (E J h0)) := ⟨(HK6.out.cell (o := p) HD2.out.2.2.2.2 hgne).trans ((HW.out.2.2.2.1.cell (o := p) HD2.out.2.2.2.2 hgne).symm.trans q0), (HK6.out.cell (o := p + 1) HD2.out.2.2.2.2 hgne).trans ((HW.out.2.2.2.1.cell (o := p + 1) HD2.out.2.2.2.2 hgne).symm.trans q1), (HM5.out.set 3 _).cell 2⟩; have n3 := HM5.out.cell 3; have k3 := HM5.out.free 3; simp only [kag, kah, kai] at n3; have HO6 : Q (zd 49 3 ze0 (r w5 ⟨W2.heap.size, 3, U⟩ (G a5 n5 c5)) wc.heap.size (G a5 n5 c5) (zbt h0 (t.take (2 * j)) ++ [(h0, uu, vv)])) := qv.setOther (a := ⟨W2.heap.size, 3, U⟩) HM5.out (by decide) _; have hM5l := HM5.out.lt; clear qv hn5 jJ hat5)
       refine hK.out _ _ HS5.out (fun jq => ?_);clear hK K;try simp only [Act.put, kac]
       refine wpAnyH_take (i := 16) (oi := _) (v := ?_) rfl (by kernel_rfl) (by decide +kernel) (by decide +kernel) (fun _ _ _ h => h) (kaa ⟨by rfl, ?_⟩) jq ?_;rotate_left 1
       ·intro w hSw
        (try dsimp only at hSw)
        go_simp;try with_reducible rfl
       try simp only [Act.put]
       refine wpAnyH_ready (rs := [17]) (by kernel_rfl) (by simp) ?_;refine AllReadyH.cons (o := _) rfl (fun K hK => ?_) AllReadyH.nil;go_simp;refine hK.out _ _ HS6.out (fun jq => ?_);clear hK K;try simp only [Act.put, kac, kae, kaf]
       refine wpAnyH_done (by kernel_rfl) ?_ _
       have HF : Q (∃ (j' : Nat) (pa : Option Addr) (pn pc : Nat), p + 2 = 3 + 2 * j' ∧ Blk (r w5 ⟨W2.heap.size, 3, U⟩ (G a5 n5 c5)) W2.heap.size #[E J (yk : Nat), E J d0, E J h0, G pa pn pc] 43 ∧ zd 49 3 ze0 (r w5 ⟨W2.heap.size, 3, U⟩ (G a5 n5 c5)) wc.heap.size (G pa pn pc) (zbt h0 (t.take (2 * j'))) ∧ zg (fun q => q = W2.heap.size ∨ wc.heap.size ≤ q) wc (r w5 ⟨W2.heap.size, 3, U⟩ (G a5 n5 c5))) :=
        ⟨j + 1, a5, n5, c5, by have := HW.out.1; omega, HM5.out.set 3 _, by rw [HW.out.2.2.2.2]; exact HO6.out, HK6.out⟩
       clear hpi1 hpi2 hpi3 hpi4 hpi5 hpi6 hpi7 hpi8 hpi9 hpi10 n3 k3 m3 m2 q0 q1 HM5 HK5 HS5 HK6 HS6 HO6;go_wp2;go_roundw
       case rel =>
        iterate 24 apply Exists.intro
        refine ⟨⟨p + 2, ?e1, by omega, HF⟩, ?e2⟩
        case e2 => rfl
        case e1 => go_num
       case measure => simp [intOf]; omega
     ·have hjx : j = x := by omega
      subst hjx;have htt : t.take (2 * j) = t := List.take_of_length_le (by have := HG.out.2.1; omega);rw [htt] at hPo;have hbN := HD2.out.2.1.keep hKp (fun h => by rcases h with h | h; omega; have := HD2.out.2.1.lt; omega);have hbel := HD2.out.2.2.1.trans (hKp.below HD2.out.2.2.1.size (fun q hq => by rcases hq with h | h; omega; exact Nat.le_trans HD2.out.2.2.1.size h));have hpo2 : zbz wr wc.heap.size (G pa pn pc) (zbt h0 t) := hPo;obtain ⟨pa2, pc2, hpv, hpT, -, -⟩ := hpo2.typed;cases hpv;have hwc := HD2.out.2.2.1.size;have hplen : (zbt h0 t).length ≤ 9223372036854775807 := Nat.le_trans (zjr _ _) (by have := HG.out.2.1; omega);obtain ⟨m0', m1', m2', m3'⟩ := hMb.cells4;have hMl := hMb.lt;have HX := zB (hpT.mono hwc) hMb;have HZ := zB hbN hbel;have HP := zpz (yk : Nat) d0 h0 pa (zbt h0 t) pc (zbt h0 t).length wr rfl hplen hpT.at;rw [zmx] at HP;clear hH hPo hpo2 hKp hMb htt hpT hbN hbel hpj hplen;generalize zbt h0 t = ps at *;generalize zdo (((yk : Nat) : Int), d0, h0, ps) = ww at *;go_wp2_with fail
      refine HP.mono ?_;rintro e w7 ⟨rfl, hb7⟩;have HX7 := zB (HX.out.1.calm (zj.below hb7 (kab _))) (HX.out.2.below hb7 HX.out.2.lt);have HZ := zB (HZ.out.1.below hb7 HZ.out.1.lt) (HZ.out.2.trans (hb7.mono HZ.out.2.size));clear m0' m1' m2' m3' hb7 HX HP hMl;by_cases hw0 : ww = 0
      ·have HE : Q (zcw l = ((((yk : Nat) : Int), d0, h0, ps), 0)) := by
        have h := HR5.out;rw [if_pos hw0] at h;exact h
       subst hw0;clear HR5;obtain ⟨m0', m1', m2', m3'⟩ := HX7.out.2.cells4;have hMl := HX7.out.2.lt;obtain ⟨t0, t1, t2, t3⟩ := HZ.out.1.cells4;obtain ⟨y0, y1, y2, y3⟩ := HZ.out.1.free4;have hzl := HZ.out.1.lt;obtain ⟨hZ9, hK9⟩ := put4 HZ.out.1 (E J (yk : Nat)) (E J d0) (E J h0) (G pa ps.length pc)
       have HF9 : Q (Z w.heap.size w (r (r (r (r w7 ⟨w.heap.size, 0, U⟩ (E J (yk : Nat))) ⟨w.heap.size, 1, U⟩ (E J d0)) ⟨w.heap.size, 2, U⟩ (E J h0)) ⟨w.heap.size, 3, U⟩ (G pa ps.length pc)) ∧ zam w.heap.size (r (r (r (r w7 ⟨w.heap.size, 0, U⟩ (E J (yk : Nat))) ⟨w.heap.size, 1, U⟩ (E J d0)) ⟨w.heap.size, 2, U⟩ (E J h0)) ⟨w.heap.size, 3, U⟩ (G pa ps.length pc)) pa ps) := by
        refine ⟨HZ.out.2.trans (hK9.below HZ.out.2.size (fun q hq => by omega)), ?_⟩;have b0 := HZ.out.1;exact HX7.out.1.calm (((((zj.setCell (a := ⟨w.heap.size, 0, U⟩) b0 (by decide) _).trans (zj.setCell (a := ⟨w.heap.size, 1, U⟩) (b0.set 0 _) (by decide) _)).trans (zj.setCell (a := ⟨w.heap.size, 2, U⟩) ((b0.set 0 _).set 1 _) (by decide) _)).trans (zj.setCell (a := ⟨w.heap.size, 3, U⟩) (((b0.set 0 _).set 1 _).set 2 _) (by decide) _)))
       obtain ⟨e0, e1, e2, e3⟩ := hZ9.cells4;clear hZ9 hK9;go_wp2_with fail
       clear t0 t1 t2 t3 y0 y1 y2 y3 m0' m1' m2' m3';generalize (r (r (r (r w7 ⟨w.heap.size, 0, U⟩ (E J (yk : Nat))) ⟨w.heap.size, 1, U⟩ (E J d0)) ⟨w.heap.size, 2, U⟩ (E J h0)) ⟨w.heap.size, 3, U⟩ (G pa ps.length pc)) = Z9 at *;refine bodyPost_ret (v := .tuple #[.agg #[E J (yk : Nat), E J d0, E J h0, G pa ps.length pc], E J 0]) ?_ rfl ⟨G pa ps.length pc, by rw [HE.out], ⟨pa, pc, by rw [HE.out], by rw [HE.out]; exact HF9.out.2⟩, HF9.out.1⟩;simp [results, Try.results47, go_sem, e0, e1, e2, e3]
      ·have HE : Q (zcw l = (m0, ww)) := by
        have h := HR5.out;rw [if_neg hw0] at h;exact h
       have hw0' : (ww != 0) = true := by simpa using hw0
       clear HR5 hw0;go_wp2_with fail
       refine (zfl ww w7).mono ?_;rintro e9 w9 ⟨rfl, hb9⟩;have hz9 := HZ.out.1.below hb9 HZ.out.1.lt;obtain ⟨t0, t1, t2, t3⟩ := hz9.cells4;obtain ⟨y0, y1, y2, y3⟩ := hz9.free4;have hzl := hz9.lt;obtain ⟨hZ9, hK9⟩ := put4 hz9 (E J 0) (E J 0) (E J 0) (G U 0 0);have hB9 := HZ.out.2.trans (hb9.mono HZ.out.2.size);have HF9 := zA (hB9.trans (hK9.below hB9.size (fun q hq => by omega)));obtain ⟨e0, e1, e2, e3⟩ := hZ9.cells4;clear hz9 hZ9 hK9 hb9 hB9;go_wp2_with fail
       clear t0 t1 t2 t3 y0 y1 y2 y3;generalize (r (r (r (r w9 ⟨w.heap.size, 0, U⟩ (E J 0)) ⟨w.heap.size, 1, U⟩ (E J 0)) ⟨w.heap.size, 2, U⟩ (E J 0)) ⟨w.heap.size, 3, U⟩ (G U 0 0)) = Z9 at *;refine bodyPost_ret (v := .tuple #[.agg #[E J 0, E J 0, E J 0, G U 0 0], E J ww]) ?_ rfl ⟨G U 0 0, by rw [HE.out]; rfl, ⟨U, 0, by rw [HE.out]; rfl, by rw [HE.out]; exact kaa rfl⟩, HF9.out⟩;simp [results, Try.results47, go_sem, e0, e1, e2, e3]
theorem zje (a : Option Addr) (l : List Nat) (cap n : Nat) (w : World) (hn : n = l.length) (jZ : l.length ≤ cap) (hmax : cap ≤ 9223372036854775807) (hb : Byt l) (hp : zdj w a l) :
  Calls Try.prog 47 #[G a n cap] w fun e w' => ∃ v, e = .returned (.tuple #[.agg #[E J (zej l).1.1, E J (zej l).1.2.1, E J (zej l).1.2.2.1, v], E J (zej l).2]) ∧
   (∃ pa pc, v = G pa (zej l).1.2.2.2.length pc ∧ zam w.heap.size w' pa (zej l).1.2.2.2) ∧ Z w.heap.size w w' := by
 rw [← zpe];exact zm7 a l cap n w hn jZ hmax hb hp
end Go.Proofs.Ytpcnlifmkhagkaa
