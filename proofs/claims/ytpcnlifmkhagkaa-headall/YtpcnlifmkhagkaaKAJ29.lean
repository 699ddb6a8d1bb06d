import Derived.Test.YtpcnlifmkhagkaaKAJ15
set_option maxRecDepth 20000
set_option maxHeartbeats 20000000
namespace Go.Proofs.Ytpcnlifmkhagkaa
open Go.RowKit
open Go.Value renaming slice → G, int → E
open Go.IntKind renaming i64 → J
open _root_.Option renaming none → U
open Go.Obj renaming cells → T
open Go.RowKit renaming Hid → Q, Below → Z
open Go.World renaming setCell → r
attribute [local go_sem ↓] Go.wp_at_zero Go.wp_at_succ
theorem Blk.cells6 {w : World} {N : Nat} {zV : TypeId} {c0 c1 c2 c3 c4 c5 : Value} (h : Blk w N #[c0, c1, c2, c3, c4, c5] zV) : w.cell? ⟨N, 0, U⟩ = some c0 ∧ w.cell? ⟨N, 1, U⟩ = some c1 ∧ w.cell? ⟨N, 2, U⟩ = some c2 ∧ w.cell? ⟨N, 3, U⟩ = some c3 ∧ w.cell? ⟨N, 4, U⟩ = some c4 ∧ w.cell? ⟨N, 5, U⟩ = some c5 := ⟨h.cell 0, h.cell 1, h.cell 2, h.cell 3, h.cell 4, h.cell 5⟩
theorem Blk.free6 {w : World} {N : Nat} {zV : TypeId} {c0 c1 c2 c3 c4 c5 : Value} (h : Blk w N #[c0, c1, c2, c3, c4, c5] zV) : w.frozen? ⟨N, 0, U⟩ = false ∧ w.frozen? ⟨N, 1, U⟩ = false ∧ w.frozen? ⟨N, 2, U⟩ = false ∧ w.frozen? ⟨N, 3, U⟩ = false ∧ w.frozen? ⟨N, 4, U⟩ = false ∧ w.frozen? ⟨N, 5, U⟩ = false := ⟨h.free 0, h.free 1, h.free 2, h.free 3, h.free 4, h.free 5⟩
theorem zhj {w : World} {N : Nat} {zV : TypeId} {c0 c1 c2 c3 c4 c5 : Value} (hb : Blk w N #[c0, c1, c2, c3, c4, c5] zV) (v0 v1 v2 v3 v4 v5 : Value) :
  Blk (r (r (r (r (r (r w ⟨N, 0, U⟩ v0) ⟨N, 1, U⟩ v1) ⟨N, 2, U⟩ v2) ⟨N, 3, U⟩ v3) ⟨N, 4, U⟩ v4) ⟨N, 5, U⟩ v5) N #[v0, v1, v2, v3, v4, v5] zV ∧
  zg (fun b => b = N) w (r (r (r (r (r (r w ⟨N, 0, U⟩ v0) ⟨N, 1, U⟩ v1) ⟨N, 2, U⟩ v2) ⟨N, 3, U⟩ v3) ⟨N, 4, U⟩ v4) ⟨N, 5, U⟩ v5) :=
 ⟨(((((hb.set 0 v0).set 1 v1).set 2 v2).set 3 v3).set 4 v4).set 5 v5, zg.setCells (R := fun b => b = N) rfl [v0, v1, v2, v3, v4, v5] 0 w (zg.refl _ _)⟩
def zar : Nat → List Int → Nat → List Nat → List Int × List Nat × Int
  | 0, ns, _, l => (ns, l, 0)
  | f + 1, ns, want, l =>
    if ns.length < want then
      (if (zt l).2.2 = 0 then
        (if ns.length = 2 then (if (zt l).1 < 0 ∨ 4 < (zt l).1 then (ns, l, 5) else zar f (ns ++ [(zt l).1]) (3 + 2 * (zt l).1.toNat) (l.drop (zt l).2.1))
         else zar f (ns ++ [(zt l).1]) want (l.drop (zt l).2.1))
       else (ns, l, (zt l).2.2))
    else (ns, l, 0)
def zbt (h : Int) : List Int → List P3
 | k :: n :: t => (h, k, n) :: zbt h t
 | _ => []
def zcw (b : List Nat) : M4 × Int :=
  if b.length < 3 then (m0, 8)
  else if zce (b.take (b.length - 2)) = endB b then
    (let jj := zar 12 [] 3 ((b.take (b.length - 2)).drop 1)
     if jj.2.2 = 0 then (if 0 < jj.2.1.length then (m0, 2) else
       (let m : M4 := ((((b.take (b.length - 2)).getD 0 0 : Nat) : Int), jj.1.getD 0 0, jj.1.getD 1 0, zbt (jj.1.getD 1 0) (jj.1.drop 3))
        if zdo m = 0 then (m, 0) else (m0, zdo m))) else (m0, jj.2.2))
  else (m0, 7)
theorem zg0 (l : List Nat) : zc2 (l, 0) = ((zt l).1, l.drop (zt l).2.1, (zt l).2.2) := by simp [zc2]
theorem zhu {l : List Nat} {e : Int} (h : e ≠ 0) : zc2 (l, e) = (0, l, e) := by simp [zc2, h]
theorem zgx (h : Int) : ∀ (m : Nat) {l : List Nat} {e : Int}, e ≠ 0 → zb5 h m (l, e) = ([], l, e)
 | 0, _, _, _ => rfl
 | m + 1, _, _, he => by simp [zb5, he]
theorem zkq (h : Int) : ∀ (m f : Nat) (ns : List Int) (l : List Nat), 3 ≤ ns.length → 2 * m + 1 ≤ f →
  (zar f ns (ns.length + 2 * m) l).2.2 = (zb5 h m (l, 0)).2.2 ∧ ((zb5 h m (l, 0)).2.2 = 0 → zar f ns (ns.length + 2 * m) l = (ns ++ (zb5 h m (l, 0)).1.flatMap (fun p => [p.2.1, p.2.2]), (zb5 h m (l, 0)).2.1, 0) ∧ ∀ p ∈ (zb5 h m (l, 0)).1, p.1 = h)
 | 0, f, ns, l, _, hf => by
  obtain ⟨f, rfl⟩ : ∃ g, f = g + 1 := ⟨f - 1, by omega⟩;simp [zar, zb5]
 | m + 1, f, ns, l, h3, hf => by
  obtain ⟨f, rfl⟩ : ∃ g, f = g + 1 + 1 := ⟨f - 2, by omega⟩
  have e1 : zar (f + 1 + 1) ns (ns.length + 2 * (m + 1)) l = if (zt l).2.2 = 0 then zar (f + 1) (ns ++ [(zt l).1]) (ns.length + 2 * (m + 1)) (l.drop (zt l).2.1) else (ns, l, (zt l).2.2) := by
   conv => lhs; unfold zar
   rw [if_pos (by omega), if_neg (show ¬ ns.length = 2 by omega)]
  by_cases g1 : (zt l).2.2 = 0
  ·rw [e1, if_pos g1]
   generalize hl1 : l.drop (zt l).2.1 = l1
   have e2 : zar (f + 1) (ns ++ [(zt l).1]) (ns.length + 2 * (m + 1)) l1 = if (zt l1).2.2 = 0 then zar f (ns ++ [(zt l).1] ++ [(zt l1).1]) (ns.length + 2 * (m + 1)) (l1.drop (zt l1).2.1) else (ns ++ [(zt l).1], l1, (zt l1).2.2) := by
    conv => lhs; unfold zar
    rw [if_pos (by simp; omega), if_neg (show ¬ (ns ++ [(zt l).1]).length = 2 by simp; omega)]
   have e3 : zb5 h (m + 1) (l, 0) = ((h, (zt l).1, (zc2 (l1, 0)).1) :: (zb5 h m (zc2 (l1, 0)).2).1, (zb5 h m (zc2 (l1, 0)).2).2) := by
    simp only [zb5, zg0, g1, hl1, if_true]
   rw [e3, e2, zg0];by_cases g2 : (zt l1).2.2 = 0
   ·rw [if_pos g2, g2]
    generalize l1.drop (zt l1).2.1 = l2;obtain ⟨i1, i2⟩ := zkq h m f (ns ++ [(zt l).1] ++ [(zt l1).1]) l2 (by simp; omega) (by omega);have el : (ns ++ [(zt l).1] ++ [(zt l1).1]).length + 2 * m = ns.length + 2 * (m + 1) := by simp; omega
    rw [el] at i1 i2;refine ⟨i1, fun h0 => ?_⟩;obtain ⟨j1, j2⟩ := i2 h0;refine ⟨?_, fun p hp => ?_⟩
    ·rw [j1]; simp
    ·rcases List.mem_cons.1 hp with rfl | hp
     ·rfl
     ·exact j2 p hp
   ·rw [if_neg g2, zgx h m g2]
    exact ⟨rfl, fun h0 => absurd h0 g2⟩
  ·rw [e1, if_neg g1]
   have e3 : (zb5 h (m + 1) (l, 0)).2.2 = (zt l).2.2 := by
    simp only [zb5, zg0, if_true]
    rw [zhu g1, zgx h m g1]
   rw [e3];exact ⟨rfl, fun h0 => absurd h0 g1⟩
theorem zki (h : Int) : ∀ (ps : List P3), (∀ p ∈ ps, p.1 = h) → zbt h (ps.flatMap fun p => [p.2.1, p.2.2]) = ps
 | [], _ => rfl
 | p :: t, hp => by
  have e : (p :: t).flatMap (fun p : P3 => [p.2.1, p.2.2]) = p.2.1 :: p.2.2 :: t.flatMap (fun p : P3 => [p.2.1, p.2.2]) := by simp
  rw [e];show (h, p.2.1, p.2.2) :: zbt h _ = _
  rw [zki h t (fun q hq => hp q (List.mem_cons_of_mem _ hq)), ← hp p (List.mem_cons_self ..)]
theorem zp9 (b : List Nat) : (zfu b).2 = (if (zar 12 [] 3 (b.drop 1)).2.2 = 0 then (if 0 < (zar 12 [] 3 (b.drop 1)).2.1.length then 2 else 0) else (zar 12 [] 3 (b.drop 1)).2.2) ∧
  ((zfu b).2 = 0 → (zfu b).1 = (((b.getD 0 0 : Nat) : Int), (zar 12 [] 3 (b.drop 1)).1.getD 0 0, (zar 12 [] 3 (b.drop 1)).1.getD 1 0, zbt ((zar 12 [] 3 (b.drop 1)).1.getD 1 0) ((zar 12 [] 3 (b.drop 1)).1.drop 3))) := by
 generalize hl : b.drop 1 = l
 have e1 : zar 12 [] 3 l = if (zt l).2.2 = 0 then zar 11 [(zt l).1] 3 (l.drop (zt l).2.1) else ([], l, (zt l).2.2) := by
  conv => lhs; unfold zar
  rw [if_pos (by decide), if_neg (show ¬ ([] : List Int).length = 2 by decide)];rfl
 unfold zfu
 simp only [hl, zg0]
 by_cases g1 : (zt l).2.2 = 0
 ·rw [e1, if_pos g1, g1]
  generalize l.drop (zt l).2.1 = l1;generalize (zt l).1 = x0
  have e2 : zar 11 [x0] 3 l1 = if (zt l1).2.2 = 0 then zar 10 [x0, (zt l1).1] 3 (l1.drop (zt l1).2.1) else ([x0], l1, (zt l1).2.2) := by
   conv => lhs; unfold zar
   rw [if_pos (by simp), if_neg (show ¬ [x0].length = 2 by simp)];rfl
  rw [e2, zg0];by_cases g2 : (zt l1).2.2 = 0
  ·rw [if_pos g2, g2]
   generalize l1.drop (zt l1).2.1 = l2;generalize (zt l1).1 = x1
   have e3 : zar 10 [x0, x1] 3 l2 = if (zt l2).2.2 = 0 then (if (zt l2).1 < 0 ∨ 4 < (zt l2).1 then ([x0, x1], l2, 5) else zar 9 [x0, x1, (zt l2).1] (3 + 2 * (zt l2).1.toNat) (l2.drop (zt l2).2.1)) else ([x0, x1], l2, (zt l2).2.2) := by
    conv => lhs; unfold zar
    rw [if_pos (by simp), if_pos (show [x0, x1].length = 2 by rfl)];rfl
   rw [e3, zg0];by_cases g3 : (zt l2).2.2 = 0
   ·rw [if_pos g3]
    by_cases g4 : (zt l2).1 < 0 ∨ 4 < (zt l2).1
    ·rw [if_pos g4]
     have e5 : zel ((zt l2).1, l2.drop (zt l2).2.1, (zt l2).2.2) = 5 := by unfold zel; rw [if_pos ⟨g3, g4⟩]
     rw [e5, zgx _ _ (show (5 : Int) ≠ 0 by decide)];simp [zfn]
    ·rw [if_neg g4]
     have e5 : zel ((zt l2).1, l2.drop (zt l2).2.1, (zt l2).2.2) = 0 := by unfold zel; rw [if_neg (fun h => g4 h.2)]; exact g3
     rw [e5];generalize l2.drop (zt l2).2.1 = l3;generalize (zt l2).1 = x2 at *;obtain ⟨i1, i2⟩ := zkq x1 x2.toNat 9 [x0, x1, x2] l3 (by simp) (by omega);have el : [x0, x1, x2].length + 2 * x2.toNat = 3 + 2 * x2.toNat := rfl;rw [el] at i1 i2;rw [i1];by_cases g5 : (zb5 x1 x2.toNat (l3, 0)).2.2 = 0
     ·obtain ⟨j1, j2⟩ := i2 g5
      rw [j1, if_pos g5];refine ⟨by simp only [zfn]; rw [g5]; simp, fun _ => ?_⟩;have : ([x0, x1, x2] ++ (zb5 x1 x2.toNat (l3, 0)).1.flatMap fun p => [p.2.1, p.2.2]).drop 3 = (zb5 x1 x2.toNat (l3, 0)).1.flatMap fun p => [p.2.1, p.2.2] := rfl
      rw [this];have h0 : ([x0, x1, x2] ++ (zb5 x1 x2.toNat (l3, 0)).1.flatMap fun p => [p.2.1, p.2.2]).getD 0 0 = x0 := rfl;have h1 : ([x0, x1, x2] ++ (zb5 x1 x2.toNat (l3, 0)).1.flatMap fun p => [p.2.1, p.2.2]).getD 1 0 = x1 := rfl;rw [h0, h1, zki x1 _ j2]
     ·rw [if_neg g5]
      have : zfn (zb5 x1 x2.toNat (l3, 0)).2 = (zb5 x1 x2.toNat (l3, 0)).2.2 := by unfold zfn; rw [if_neg (fun h => g5 h.1)]
      rw [this];exact ⟨rfl, fun h => absurd h g5⟩
   ·rw [if_neg g3]
    have e5 : zel ((zt l2).1, l2.drop (zt l2).2.1, (zt l2).2.2) = (zt l2).2.2 := by unfold zel; rw [if_neg (fun h => g3 h.1)]
    rw [e5, zgx _ _ g3];simp [zfn, g3]
  ·rw [if_neg g2, zhu g2]
   have e5 : zel (0, l1.drop (zt l1).2.1, (zt l1).2.2) = (zt l1).2.2 := by unfold zel; rw [if_neg (fun h => g2 h.1)]
   rw [e5, zgx _ _ g2];simp [zfn, g2]
 ·rw [e1, if_neg g1, zhu g1, zhu g1]
  have e5 : zel (0, l.drop (zt l).2.1, (zt l).2.2) = (zt l).2.2 := by unfold zel; rw [if_neg (fun h => g1 h.1)]
  rw [e5, zgx _ _ g1];simp [zfn, g1]
theorem zpe (b : List Nat) : zcw b = zej b := by
 unfold zcw zej
 split
 ·rfl
 ·split
  ·obtain ⟨h1, h2⟩ := zp9 (b.take (b.length - 2))
   generalize zar 12 [] 3 ((b.take (b.length - 2)).drop 1) = jj at *;generalize zfu (b.take (b.length - 2)) = q at *;obtain ⟨m, e⟩ := q;simp only at h1 h2 ⊢
   by_cases c : jj.2.2 = 0
   ·rw [if_pos c] at h1 ⊢
    by_cases c2 : 0 < jj.2.1.length
    ·rw [if_pos c2] at h1 ⊢
     rw [h1];rfl
    ·rw [if_neg c2] at h1 ⊢
     rw [if_pos h1, h2 h1]
   ·rw [if_neg c] at h1 ⊢
    rw [h1, if_neg c, if_neg c]
  ·rfl
theorem far_take {l : List P3} {k : Nat} (h : k < l.length) (hs : Int) : ((l.take (k + 1)).any fun p => !decide (p.1 = hs)) = (((l.take k).any fun p => !decide (p.1 = hs)) || !decide (l[k].1 = hs)) := by rw [zax h, List.any_append, List.any_cons, List.any_nil, Bool.or_false]
theorem zpz (k d hs : Int) (a : Option Addr) (l : List P3) (cap n : Nat) (w : World) (hn : n = l.length) (hl : l.length ≤ 9223372036854775807) (hp : zal w a l) :
  Calls Try.prog 70 #[.agg #[E J k, E J d, E J hs, G a n cap]] w fun e w' => e = .returned (E J (zbd k d hs l)) ∧ Z w.heap.size w w' := by
 have hbX := zi w (T #[E J k, E J d, E J hs, G a n cap] 43);have hm0 : Blk (w.alloc (T #[E J k, E J d, E J hs, G a n cap] 43)) w.heap.size #[E J k, E J d, E J hs, G a n cap] 43 := Blk.new _ _ _;have HN := zC hn hp hl;have hnl : n ≤ 9223372036854775807 := by omega
 clear hn hp hl;by_cases h1 : k < 1 ∨ 7 < k
 ·have HF : Q (zbd k d hs l = 1) := by show _ = _; unfold zbd; rw [if_pos h1]
  go_enter Try.func70, Try.ntmps70
  by_cases h1a : k < 1
  ·clear h1
   go_wp2;go_ret;exact ⟨zb9 HF.out.symm, hbX⟩
  ·have h1b : 7 < k := by omega
   clear h1;go_wp2;go_ret;exact ⟨zb9 HF.out.symm, hbX⟩
 have h1a : ¬ k < 1 := by omega
 have h1b : ¬ 7 < k := by omega
 by_cases h2 : d < 0 ∨ 1343 < d ∨ hs < 0 ∨ 2 < hs
 ·have HF : Q (zbd k d hs l = 3) := by show _ = _; unfold zbd; rw [if_neg h1, if_pos h2]
  clear h1;go_enter Try.func70, Try.ntmps70
  by_cases c1 : d < 0
  ·clear h2
   go_wp2;go_ret;exact ⟨zb9 HF.out.symm, hbX⟩
  ·by_cases c2 : 1343 < d
   ·clear h2
    go_wp2;go_ret;exact ⟨zb9 HF.out.symm, hbX⟩
   ·by_cases c3 : hs < 0
    ·clear h2
     go_wp2;go_ret;exact ⟨zb9 HF.out.symm, hbX⟩
    ·have c4 : 2 < hs := by omega
     clear h2;go_wp2;go_ret;exact ⟨zb9 HF.out.symm, hbX⟩
 have c1 : ¬ d < 0 := by omega
 have c2 : ¬ 1343 < d := by omega
 have c3 : ¬ hs < 0 := by omega
 have c4 : ¬ 2 < hs := by omega
 by_cases h3 : 1 < k
 ·by_cases h4 : n = 0
  ·have HF : Q (zbd k d hs l = 0) := by show _ = _; unfold zbd; rw [if_neg h1, if_neg h2, if_pos h3, if_pos (by have := HN.out.1; omega)]
   subst h4;clear h1 h2;go_enter Try.func70, Try.ntmps70
   go_wp2;go_ret;exact ⟨zb9 HF.out.symm, hbX⟩
  ·have HF : Q (zbd k d hs l = 5) := by show _ = _; unfold zbd; rw [if_neg h1, if_neg h2, if_pos h3, if_neg (by have := HN.out.1; omega)]
   have h4' : ((n : Int) != 0) = true := by simpa using h4
   clear h1 h2 h4;go_enter Try.func70, Try.ntmps70
   go_wp2;go_ret;exact ⟨zb9 HF.out.symm, hbX⟩
 have HE : Q (zbd k d hs l = if zay l 3 = 0 then (if (l.any fun p => !decide (p.1 = hs)) = true then 3 else 0) else zay l 3) := by show _ = _; unfold zbd; rw [if_neg h1, if_neg h2, if_neg h3]
 clear h1 h2;go_enter Try.func70, Try.ntmps70
 go_wp2_with fail
 generalize w.alloc (T #[E J k, E J d, E J hs, G a n cap] 43) = W at *;refine (zj0 a l cap n 3 W HN.out.1 HN.out.2.2 (HN.out.2.1.below hbX) (by decide)).mono ?_;rintro e w1 ⟨rfl, hb1⟩;have hB1 := hbX.trans (hb1.mono hbX.size);have hm1 := hm0.below hb1 hm0.lt;clear hb1 hbX hm0;generalize hwr : zay l 3 = x at *;by_cases hx : x = 0
 ·subst hx
  have q2 := hm1.cell 2;have q3 := hm1.cell 3;have hql := hm1.lt;simp at q2 q3
  clear hwr;go_wp2;clear q2 q3;go_loopw [48] (fun i w' => ∃ k : Nat, k ≤ n ∧ i = E J k ∧ Q (((l.take k).any fun p => !decide (p.1 = hs)) = false) ∧ Z w1.heap.size w1 w') (fun i _ => n - (intOf i).toNat)
  case atStart => exact ⟨0, Nat.zero_le _, rfl, rfl, Below.refl _ _⟩
  case round =>
   obtain ⟨j, hj, rfl, hno, hbw⟩ := hrel;have hBr := hB1.trans (hbw.mono hB1.size);have hmr := hm1.below hbw hm1.lt;have q2 := hmr.cell 2;have hqr := hmr.lt;simp at q2
   by_cases hlt : j < n
   ·have hjl : j < l.length := by have := HN.out.1; omega
    rcases HN.out.2.1.below hBr with h0 | ⟨g, o, rfl, hg, hc⟩
    ·rw [h0] at hjl; simp at hjl
    obtain ⟨e0, e1, e2⟩ := hc j hjl;have HS : Q (((l.take (j + 1)).any fun p => !decide (p.1 = hs)) = !decide (l[j].1 = hs)) := by show _ = _; rw [far_take hjl, hno.out]; rfl
    have HA : Q (¬ l[j].1 = hs → (l.any fun p => !decide (p.1 = hs)) = true) := fun h => by
     rw [List.any_eq_true];exact ⟨_, List.getElem_mem hjl, by simpa using h⟩
    clear hc hno;generalize l[j] = p at *;obtain ⟨p0, p1, p2⟩ := p;simp only at e0 e1 e2 HS HA
    have hbA := zi wr (T #[E J p0, E J p1, E J p2] 49);have hBA := hBr.trans (hbA.mono hBr.size);have hBm := hbw.trans (hbA.mono hbw.size);clear hmr hbw;by_cases hp : p0 = hs
    ·subst hp
     have HF : Q (((l.take (j + 1)).any fun p => !decide (p.1 = p0)) = false) := by show _ = _; rw [HS.out]; simp
     clear HS HA;go_wp2;go_roundw
     case rel => exact ⟨j + 1, by omega, by go_num, HF, hBm⟩
     case measure => simp [intOf]; omega
    ·have HF : Q (zbd k d hs l = 3) := by show _ = _; rw [HE.out, if_pos trivial, if_pos (HA.out hp)]
     have hp' : (p0 != hs) = true := by simpa using hp
     clear HS HA hp;go_wp2;go_ret;exact ⟨zb9 HF.out.symm, hBA⟩
   ·have HF : Q (zbd k d hs l = 0) := by
     have h := hno.out;rw [List.take_of_length_le (by have := HN.out.1; omega)] at h;show _ = _
     rw [HE.out, if_pos trivial, h];rfl
    clear hno;go_wp2;go_ret;exact ⟨zb9 HF.out.symm, hBr⟩
 ·have HF : Q (zbd k d hs l = x) := by show _ = _; rw [HE.out, if_neg hx]
  have hx' : (x != 0) = true := by simpa using hx
  clear hx hwr HE;go_wp2;go_ret;exact ⟨zb9 HF.out.symm, hB1⟩
end Go.Proofs.Ytpcnlifmkhagkaa
