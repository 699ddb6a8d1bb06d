import Derived.Test.YtpcnlifmkhagkaaGreatKTJ04
import Derived.Lib.AppendZeros
set_option maxRecDepth 20000
set_option maxHeartbeats 20000000
namespace Go.Proofs.YtpcnlifmkhagkaaGreat
open Go.RowKit
open Go.Value renaming slice → G, int → E
open Go.IntKind renaming i64 → J
open _root_.Option renaming none → U
open Go.Obj renaming cells → T
open Go.RowKit renaming Hid → Q, Below → Z
attribute [local go_sem ↓] Go.wp_at_zero Go.wp_at_succ
section
theorem idx4_0 (v0 v1 v2 v3 : Value) (w : World) : (Instr.index 75 (.agg #[v0, v1, v2, v3]) (E J 0)).run Tryz.prog w = .ok v0 w := by kernel_rfl
theorem idx4_1 (v0 v1 v2 v3 : Value) (w : World) : (Instr.index 75 (.agg #[v0, v1, v2, v3]) (E J 1)).run Tryz.prog w = .ok v1 w := by kernel_rfl
theorem idx4_2 (v0 v1 v2 v3 : Value) (w : World) : (Instr.index 75 (.agg #[v0, v1, v2, v3]) (E J 2)).run Tryz.prog w = .ok v2 w := by kernel_rfl
theorem idx4_3 (v0 v1 v2 v3 : Value) (w : World) : (Instr.index 75 (.agg #[v0, v1, v2, v3]) (E J 3)).run Tryz.prog w = .ok v3 w := by kernel_rfl
attribute [local go_sem ↓] idx4_0 idx4_1 idx4_2 idx4_3
def sv (s : S4) : Value := .agg #[E J s.1, E J s.2.1, E J s.2.2.1, E J s.2.2.2]
end
theorem zoc (a : Option Addr) (l : List Int) (cap n : Nat) (d : Int) (w : World) (hn : n = l.length) (hl : l.length ≤ 9223372036854775807) (hp : zi 1 zu w a l) :
  Calls Tryz.prog 114 #[G a n cap, E J d] w fun e w' => ∃ jj : Int, e = .returned (E J jj) ∧ decide (0 ≤ jj) = inI l d ∧ Z w.heap.size w w' := by
 have HN := zB hn hp;have hnl : n ≤ 9223372036854775807 := by omega
 clear hn hp hl;go_enter Tryz.func114, Tryz.ntmps114
 go_wp2;go_loopw [8] (fun i w' => ∃ k : Nat, k ≤ n ∧ i = E J k ∧ Q (inI (l.take k) d = false) ∧ Z w.heap.size w w') (fun i _ => n - (intOf i).toNat)
 case atStart => exact ⟨0, Nat.zero_le _, rfl, rfl, Below.refl _ _⟩
 case round =>
  obtain ⟨k, hk, rfl, hno, hbw⟩ := hrel;by_cases hlt : k < n
  ·have hkl : k < l.length := by have := HN.out.1; omega
   rcases HN.out.2.below hbw with h0 | ⟨g, o, rfl, hg, hc⟩
   ·rw [h0] at hkl; simp at hkl
   have d0 := hc k hkl 0 _ rfl;simp only [Nat.mul_one, Nat.add_zero] at d0
   have HA : Q (l[k] = d → inI l d = true) := fun h => by
    unfold inI
    rw [List.any_eq_true];exact ⟨_, List.getElem_mem hkl, by simpa using h⟩
   have HB : Q (¬ l[k] = d → inI (l.take (k + 1)) d = false) := fun h => by
    rw [zav hkl, zhm, hno.out, decide_eq_false h]; rfl
   clear hc hno;generalize l[k] = x at *;by_cases hd : d = x
   ·have HF : Q (decide (0 ≤ (k : Int)) = inI l d) := by show _ = _; rw [HA.out hd.symm]; simp
    subst hd;clear HA HB;go_wp2;go_ret;exact ⟨_, rfl, HF.out, hbw⟩
   ·have HF := zA (HB.out (fun e => hd e.symm))
    have hd' : (d == x) = false := by simpa using hd
    clear HA HB hd;go_wp2;go_roundw
    case rel => exact ⟨k + 1, by omega, by go_num, HF, hbw⟩
    case measure => simp [intOf]; omega
  ·have HF : Q (decide (0 ≤ (-1 : Int)) = inI l d) := by have := hno.out; rw [List.take_of_length_le (by have := HN.out.1; omega)] at this; rw [this]; rfl
   clear hno;go_wp2;go_ret;exact ⟨_, rfl, HF.out, hbw⟩
theorem zmz (a : Option Addr) (l : List Int) (cap n : Nat) (d : Int) (w : World) (hn : n = l.length) (hl : l.length ≤ 9223372036854775807) (hp : zi 1 zu w a l) :
  Calls Tryz.prog 83 #[G a n cap, E J d] w fun e w' => e = .returned (.bool (inI l d)) ∧ Z w.heap.size w w' := by
 have HC := zoc a l cap n d w hn hl hp;clear hn hl hp;go_enter Tryz.func83, Tryz.ntmps83
 go_wp2_with fail
 refine HC.mono ?_;rintro e w1 ⟨i, rfl, hi, hb1⟩;have HI := zA hi;clear hi HC;go_wp2;go_ret;exact ⟨zfw HI.out, hb1⟩
theorem grow_any (n : Nat) (w : World) (h1 : 1 ≤ n) (hl : n ≤ 3518437208883) :
  Calls Tryz.prog 107 #[G U 0 0, E J n] w fun e w' => ∃ a c, e = .returned (G a 0 c) ∧ za 40 3 zah w' w.heap.size (G a 0 c) [] ∧ Z w.heap.size w w' := by
 obtain ⟨i0, hi, hz0, hz1, hz2⟩ := info_parts zcp;have hrun := fun ty => Lib.run_append_nil_zeros (P := Tryz.prog) w 26 3 ty 40 i0 _ J J Tryz.underlying26 Tryz.underlying3 hi hz0 n (by omega) (by rw [hz1]; decide) (by omega) (by rw [hz2]; omega)
 have hge := grownCap_ge w n 0 40;have hle := grownCap_le_maxLen w n 0 40 (by unfold maxLen; omega);clear hi hz0 hz1 hz2
 have HO : Q (za 40 3 zah (w.drew.alloc (T (Builtin.zeroCells (Value.agg #[E J 0, E J 0, G U 0 0]).cells n ++ Builtin.zeroCells (Value.agg #[E J 0, E J 0, G U 0 0]).cells (grownCap w n 0 40 - n)) 40)) w.heap.size (G (some ⟨w.heap.size, 0, U⟩) 0 (grownCap w n 0 40)) [] ∧ Z w.heap.size w (w.drew.alloc (T (Builtin.zeroCells (Value.agg #[E J 0, E J 0, G U 0 0]).cells n ++ Builtin.zeroCells (Value.agg #[E J 0, E J 0, G U 0 0]).cells (grownCap w n 0 40 - n)) 40))) := by
  refine ⟨World.ownsRow_made w.drew _ _ (Nat.le_refl _) hle ?_, ((Below.refl _ w).drew).alloc (by simp) _⟩;simp [Builtin.zeroCells, Value.cells]
  omega
 have HR : Q _ := hrun;clear hrun;generalize grownCap w n 0 40 = gc at *;generalize w.drew.alloc (T (Builtin.zeroCells (Value.agg #[E J 0, E J 0, G U 0 0]).cells n ++ Builtin.zeroCells (Value.agg #[E J 0, E J 0, G U 0 0]).cells (gc - n)) 40) = W at *;have hn0 : (0 : Int) < (n : Int) := by omega
 go_enter Tryz.func107, Tryz.ntmps107
 go_wp2_with (at_builtin; refine Lib.wpList_append_run _ rfl _ _ _ _ rfl _ _ rfl rfl _ _ (HR.out _) ?_)
 go_wp2;go_ret;exact ⟨_, _, rfl, HO.out.1, HO.out.2⟩
theorem zon (b2 : Nat) (a1 a2 : Option Addr) (X1 X2 : List XL) (n1 n2 c1 c2 : Nat) (w : World) (hb : b2 < w.heap.size) (d0 : w.cell? ⟨b2, 0, U⟩ = some (G a1 n1 c1)) (d1 : w.cell? ⟨b2, 1, U⟩ = some (G a2 n2 c2)) (hn1 : n1 = X1.length) (hn2 : n2 = X2.length) (hl12 : X1.length + X2.length ≤ 3518437208883) (h1 : 1 ≤ X1.length + X2.length) (hp1 : zi 3 zah w a1 X1) (hp2 : zi 3 zah w a2 X2) :
  Calls Tryz.prog 76 #[G (some ⟨b2, 0, U⟩) 2 2] w fun e w' => ∃ a' n' c', e = .returned (G a' n' c') ∧ za 40 3 zah w' w.heap.size (G a' n' c') (X1 ++ X2) ∧ Z w.heap.size w w' := by
 have HP := zD hn1 hn2 hp1 hp2;have hs1 : n1 + n2 ≤ 3518437208883 := by omega
 have hs3 : 1 ≤ n1 + n2 := by omega
 clear hn1 hn2 hp1 hp2;go_enter Tryz.func76, Tryz.ntmps76
 go_wp2;go_loopw [3, 11] (fun s i w' => (i = E J 0 ∧ s = E J 0 ∨ i = E J 1 ∧ s = E J (n1 : Int) ∨ i = E J 2 ∧ s = E J ((n1 + n2 : Nat) : Int)) ∧ Z w.heap.size w w') (fun _ i _ => 2 - (intOf i).toNat)
 case atStart => exact ⟨Or.inl ⟨rfl, rfl⟩, Below.refl _ _⟩
 case round =>
  obtain ⟨hc, hbr⟩ := hrel;have e0 := (hbr.cell (p := ⟨b2, 0, U⟩) hb).trans d0;have e1 := (hbr.cell (p := ⟨b2, 1, U⟩) hb).trans d1;have hsr := hbr.size;rcases hc with ⟨rfl, rfl⟩ | ⟨rfl, rfl⟩ | ⟨rfl, rfl⟩
  ·have g0 : ¬ (n1 : Int) < 0 := by omega
   clear d0 d1;go_wp2;go_roundw
   case rel => exact ⟨Or.inr (Or.inl ⟨rfl, by go_num⟩), hbr⟩
   case measure => simp [intOf]
  ·have g0 : ¬ (n1 : Int) + (n2 : Int) < 0 := by omega
   clear d0 d1;go_wp2;go_roundw
   case rel => exact ⟨Or.inr (Or.inr ⟨rfl, by go_num⟩), hbr⟩
   case measure => simp [intOf]
  ·clear e0 e1
   go_wp2_with fail
   refine (grow_any (n1 + n2) _ hs3 (by omega)).mono ?_;rintro e w1 ⟨ag, cg, rfl, ho1, hb1⟩;have HG := zB (ho1.mono hsr) (hbr.trans (hb1.mono hsr));have HC := zB d0 d1;clear ho1 hb1 d0 d1 hbr hsr;generalize wr = wo at *;go_wp2;go_loopw [6, 27] (fun v i w' => ∃ (av : Option Addr) (nv cv : Nat), v = G av nv cv ∧ (i = E J 0 ∧ za 40 3 zah w' w.heap.size (G av nv cv) [] ∨ i = E J 1 ∧ za 40 3 zah w' w.heap.size (G av nv cv) X1 ∨ i = E J 2 ∧ za 40 3 zah w' w.heap.size (G av nv cv) (X1 ++ X2)) ∧ Z w.heap.size w w') (fun _ i _ => 2 - (intOf i).toNat)
   case atStart => exact ⟨ag, 0, cg, rfl, Or.inl ⟨rfl, HG.out.1⟩, HG.out.2⟩
   case round =>
    obtain ⟨av, nv, cv, rfl, hc, hbw⟩ := hrel;have e0 := (hbw.cell (p := ⟨b2, 0, U⟩) hb).trans HC.out.1;have e1 := (hbw.cell (p := ⟨b2, 1, U⟩) hb).trans HC.out.2;have hsw := hbw.size;rcases hc with ⟨rfl, hown⟩ | ⟨rfl, hown⟩ | ⟨rfl, hown⟩
    ·have HO := zA hown
     clear hown;go_wp2_with (at_builtin; refine zbi za7 zcs Tryz.underlying26 zcp rfl (by decide) _ rfl _ _ rfl w.heap.size _ [] rfl HO.out a1 n1 c1 X1 rfl HP.out.1 (HP.out.2.2.1.below hbw) (by unfold maxLen; simp; omega) (by simp; omega) hsw ?_; intro a4 n4 c4 w4 jy hn4 jq jw; clear hn4 jw)
     have HF : Q (za 40 3 zah w4 w.heap.size (G a4 n4 c4) X1 ∧ Z w.heap.size w w4) := ⟨by rw [List.nil_append] at jy; exact jy, hbw.grown jq hsw HO.out.base⟩;clear jq jy;go_wp2;go_roundw
     case rel => exact ⟨a4, n4, c4, rfl, Or.inr (Or.inl ⟨rfl, HF.out.1⟩), HF.out.2⟩
     case measure => simp [intOf]
    ·have HO := zA hown
     clear hown;go_wp2_with (at_builtin; refine zbi za7 zcs Tryz.underlying26 zcp rfl (by decide) _ rfl _ _ rfl w.heap.size _ X1 rfl HO.out a2 n2 c2 X2 rfl HP.out.2.1 (HP.out.2.2.2.below hbw) (by unfold maxLen; omega) (by omega) hsw ?_; intro a4 n4 c4 w4 jy hn4 jq jw; clear hn4 jw)
     have HF : Q (za 40 3 zah w4 w.heap.size (G a4 n4 c4) (X1 ++ X2) ∧ Z w.heap.size w w4) := ⟨jy, hbw.grown jq hsw HO.out.base⟩;clear jq jy;go_wp2;go_roundw
     case rel => exact ⟨a4, n4, c4, rfl, Or.inr (Or.inr ⟨rfl, HF.out.1⟩), HF.out.2⟩
     case measure => simp [intOf]
    ·go_wp2
     go_ret;exact ⟨av, nv, cv, rfl, hown, hbw⟩
section
variable {α : Type}
def zag (e : TypeId) (size : Nat) (enc : α → List Value) (w : World) (B : Nat) (v : Value) (xs : List α) : Prop :=
 za e size enc w B v xs ∨ (xs = [] ∧ ∃ g, v = G (some ⟨g, 0, U⟩) 0 0 ∧ Blk w g #[] e)
variable {e : TypeId} {size : Nat} {enc : α → List Value} {w w' : World} {B : Nat} {v : Value} {xs : List α}
theorem zag.made {g : Nat} (h : Blk w g #[] e) (B : Nat) : zag e size enc w B (G (some ⟨g, 0, U⟩) 0 0) [] := Or.inr ⟨rfl, g, rfl, h⟩
theorem zag.own (h : za e size enc w B v xs) : zag e size enc w B v xs := Or.inl h
theorem zag.below (h : zag e size enc w B v xs) (hb : Z w.heap.size w w') : zag e size enc w' B v xs := by
 rcases h with h | ⟨h0, g, hv, hg⟩
 ·exact Or.inl (h.below hb (Nat.le_refl _))
 ·exact Or.inr ⟨h0, g, hv, hg.below hb hg.lt⟩
theorem zag.at {a : Option Addr} {n cap : Nat} (he : ∀ x, (enc x).length = size) (h : zag e size enc w B (G a n cap) xs) : zi size enc w a xs ∧ n = xs.length ∧ xs.length ≤ cap ∧ cap ≤ maxLen := by
 rcases h with h | ⟨h0, g, hv, hg⟩
 ·obtain ⟨a', cap', hv, hrow, h1, h2⟩ := h.row he
  cases hv;exact ⟨hrow, rfl, h1, h2⟩
 ·cases hv
  subst h0;exact ⟨Or.inl rfl, rfl, Nat.le_refl _, Nat.zero_le _⟩
theorem zag.slice (he : ∀ x, (enc x).length = size) (h : zag e size enc w B v xs) : ∃ a n cap, v = G a n cap := by
 rcases h with h | ⟨h0, g, hv, hg⟩
 ·obtain ⟨a, cap, hv, _⟩ := h.row he
  exact ⟨a, _, cap, hv⟩
 ·exact ⟨_, _, _, hv⟩
theorem zkt {bytes : Nat} {t : TypeId} {z : Value} (he : ∀ x, (enc x).length = size) (h1 : ∀ x, ∀ u ∈ enc x, u.oneCell' = true) (ht : Tryz.prog.underlying t = some (.slice e))
  (hinfo : (Tryz.prog.info? e).map (fun i => (i.zero, i.size, i.bytes)) = some (some z, size, bytes)) (hzs : z.cells.size = size) (h0 : 0 < size) (ty : TypeId)
  (hown : zag e size enc w B v xs) (ad : Option Addr) (m c : Nat) (ys : List α) (hm : m = ys.length) (hsrc : zi size enc w ad ys)
  (hml : xs.length + ys.length ≤ maxLen) (hl : (xs.length + ys.length) * bytes ≤ 140737488355328) (hB : B ≤ w.heap.size) :
  ∃ a' n' c' w', (Builtin.append_ #[t, t] ty #[v, G ad m c]).run Tryz.prog w = .ok (G a' n' c') w' ∧ zag e size enc w' B (G a' n' c') (xs ++ ys) ∧ n' = xs.length + ys.length ∧ Z B w w' := by
 subst hm;obtain ⟨i0, hi, hz0, hz1, hz2⟩ := info_parts hinfo;rcases hown with hown | ⟨rfl, g, rfl, hg⟩
 ·obtain ⟨v', w', hr, g1, g2, _⟩ := zi1 (P := Tryz.prog) w B t ty e i0 _ size bytes ht hi hz0 hz1 hz2 hzs h0 v xs.length (zx enc xs) hown ad ys.length c (zx enc ys) (hsrc.src he h0) (zhk h1 ys) hml hl hB
  have hO : za e size enc w' B v' (xs ++ ys) := by
   unfold za
   rw [zfd, List.length_append];exact g1
  obtain ⟨a', c', hv, _⟩ := hO.row he;rw [List.length_append] at hv;subst hv;refine ⟨a', _, c', w', hr, Or.inl hO, rfl, (Below.refl B w).grown g2 hB (fun k hk => (World.ownsRow.lt hown k hk).1)⟩
 ·simp only [List.length_nil, Nat.zero_add, List.nil_append] at hml hl ⊢
  rcases hsrc with rfl | ⟨b, o, rfl, hlt, hc⟩
  ·have hroom := fun (x : Value) (hs : Src Tryz.prog i0.size t x 0 [] w) => run_append_room_src (P := Tryz.prog) w t t ty e i0 ht hi g 0 0 0 x 0 [] hs (by omega) (fun j hj => by simp at hj) (fun j hj => by simp at hj)
   have hr : (Builtin.append_ #[t, t] ty #[G (some ⟨g, 0, U⟩) 0 0, G ad 0 c]).run Tryz.prog w = .ok (G (some ⟨g, 0, U⟩) 0 0) w := by
    cases ad with
    | none => exact hroom _ (Src.ofNil w ht c)
    | some a0 => exact hroom _ (Src.ofSlice w ht a0 0 c [] (by simp) (fun j u hj => by simp at hj) (fun u hu => by cases hu))
   exact ⟨_, _, _, w, hr, Or.inr ⟨rfl, g, rfl, hg⟩, rfl, Below.refl _ _⟩
  ·by_cases hy : ys = []
   ·subst hy
    have hroom := run_append_room_src (P := Tryz.prog) w t t ty e i0 ht hi g 0 0 0 _ 0 [] (Src.ofSlice w ht ⟨b, o, U⟩ 0 c [] (by simp) (fun j u hj => by simp at hj) (fun u hu => by cases hu)) (by omega) (fun j hj => by simp at hj) (fun j hj => by simp at hj);exact ⟨_, _, _, w, hroom, Or.inr ⟨rfl, g, rfl, hg⟩, rfl, Below.refl _ _⟩
   ·have hpos := List.length_pos_iff.2 hy
    have hs : zi size enc w (some ⟨b, o, U⟩) ys := Or.inr ⟨b, o, rfl, hlt, hc⟩;have hS := hs.src he h0;obtain ⟨hS1, hS2⟩ := hS
    have hS3 : ∀ j u, (zx enc ys)[j]? = some u → w.cell? ((⟨b, o, U⟩ : Addr).add j) = some u := by
     rcases hS2 with h | ⟨a0, ha, h⟩
     ·omega
     ·cases ha; exact h
    have hmade : w.ownsRow 0 e size (G (some ⟨g, 0, U⟩) 0 0) 0 [] := ⟨by simp, Or.inr ⟨g, 0, #[], rfl, Nat.zero_le _, hg, Nat.le_refl _, Nat.zero_le _, by simp, by simp⟩⟩;obtain ⟨v', w', hr, g1, g2, _, g3⟩ := run_append_own_at (P := Tryz.prog) w 0 t ty e i0 _ size bytes ht hi hz0 hz1 hz2 hzs h0 _ 0 [] hmade ⟨b, o, U⟩ ys.length c (zx enc ys) hS1 hS3 (zhk h1 ys) (by omega) (by rw [Nat.zero_add]; exact hl) (Nat.zero_le _);have hr2 := run_append_grow (P := Tryz.prog) w t ty e i0 _ ht hi hz0 ⟨g, 0, U⟩ 0 0 [] (by simp) (fun j u hj => by simp at hj) ⟨b, o, U⟩ ys.length c (zx enc ys) (by rw [hz1]; exact hS1) hS3 (by omega) (by unfold maxLen at hml; omega) (by rw [Nat.zero_add, nextslicecap_zero hpos, hz2]; omega);rw [hr2] at hr;injection hr with hv hw
    subst hv;rw [← hw] at g1
    have hO : za e size enc (w.drew.alloc (T (([] : List Value).toArray ++ (zx enc ys).toArray ++ Builtin.zeroCells z.cells (grownCap w (0 + ys.length) 0 e - (0 + ys.length))) e)) B (G (some ⟨w.heap.size, 0, U⟩) (0 + ys.length) (grownCap w (0 + ys.length) 0 e)) ys := by
     rw [List.nil_append] at g1;obtain ⟨q1, q2⟩ := g1;rw [Nat.zero_add] at q1 q2 ⊢
     refine ⟨q1, ?_⟩;rcases q2 with ⟨q3, _⟩ | ⟨g', cap', cur, q3, _, q5⟩
     ·cases q3
     ·cases q3
      exact Or.inr ⟨_, _, cur, rfl, hB, q5⟩
    refine ⟨_, _, _, _, hr2, Or.inl hO, by omega, ?_⟩;exact ((Below.refl B w).drew).alloc (by simpa using hB) _
theorem zhe {bytes : Nat} {t : TypeId} {z : Value} (he : ∀ x, (enc x).length = size) (h1 : ∀ x, ∀ u ∈ enc x, u.oneCell' = true) (ht : Tryz.prog.underlying t = some (.slice e))
  (hinfo : (Tryz.prog.info? e).map (fun i => (i.zero, i.size, i.bytes)) = some (some z, size, bytes)) (hzs : z.cells.size = size) (h0 : 0 < size)
  {ops : Array Oper} {rest : List Oper} {o : Oper} {a : Act} {zZ : Exit → Act → World → Prop} (w : World) (hgd : o.guard = U) (s x : Operand)
  (ho : o.op = .call { callee := .builtin .append, args := #[s, x], argTypes := #[t, t] })
  (B : Nat) (v : Value) (xs : List α) (hs : a.eval s = v) (hown : zag e size enc w B v xs) (ad : Option Addr) (m c : Nat) (ys : List α) (hx : a.eval x = G ad m c) (hm : m = ys.length) (hsrc : zi size enc w ad ys)
  (hml : xs.length + ys.length ≤ maxLen) (hl : (xs.length + ys.length) * bytes ≤ 140737488355328) (hB : B ≤ w.heap.size)
  (h : ∀ a' n' c' w', zag e size enc w' B (G a' n' c') (xs ++ ys) → n' = xs.length + ys.length → Z B w w' → wpList Tryz.prog ops zZ rest (a.put o.dst (G a' n' c')) w') : wpList Tryz.prog ops zZ (o :: rest) a w := by
 refine wpList_plain hgd fun K hK => ?_
 obtain ⟨a', n', c', w', hr, g1, g2, g3⟩ := zkt (w := w) he h1 ht hinfo hzs h0 o.type hown ad m c ys hm hsrc hml hl hB;unfold Oper.wp execOp
 simp only [ho, resolve, invoke, builtin, Sem.run_bind, Sem.run_pure, Result.andThen_ok, List.map_toArray, List.map_cons, List.map_nil, hs, hx, hr]
 exact hK _ _ (h a' n' c' w' g1 g2 g3)
theorem zb1 {bytes : Nat} {t : TypeId} {z : Value} (he : ∀ x, (enc x).length = size) (h1 : ∀ x, ∀ u ∈ enc x, u.oneCell' = true) (ht : Tryz.prog.underlying t = some (.slice e))
  (hinfo : (Tryz.prog.info? e).map (fun i => (i.zero, i.size, i.bytes)) = some (some z, size, bytes)) (hzs : z.cells.size = size) (h0 : 0 < size)
  {ops : Array Oper} {o : Oper} {a : Act} {K : Act → World → Prop} {zZ : Exit → Act → World → Prop} {zQ : Prop} (w : World) (hw : Region.wanted o (yielded ops a.tmps) = true) (s x : Operand)
  (ho : o.op = .call { callee := .builtin .append, args := #[s, x], argTypes := #[t, t] })
  (B : Nat) (v : Value) (xs : List α) (hs : a.eval s = v) (hown : zag e size enc w B v xs) (ad : Option Addr) (m c : Nat) (ys : List α) (hx : a.eval x = G ad m c) (hm : m = ys.length) (hsrc : zi size enc w ad ys)
  (hml : xs.length + ys.length ≤ maxLen) (hl : (xs.length + ys.length) * bytes ≤ 140737488355328) (hB : B ≤ w.heap.size)
  (h : ∀ a' n' c' w', zag e size enc w' B (G a' n' c') (xs ++ ys) → n' = xs.length + ys.length → Z B w w' → K (a.put o.dst (G a' n' c')) w') : if Region.wanted o (yielded ops a.tmps) = true then Oper.wp Tryz.prog o a w K zZ else zQ := by
 rw [if_pos hw];obtain ⟨a', n', c', w', hr, g1, g2, g3⟩ := zkt (w := w) he h1 ht hinfo hzs h0 o.type hown ad m c ys hm hsrc hml hl hB;unfold Oper.wp execOp
 simp only [ho, resolve, invoke, builtin, Sem.run_bind, Sem.run_pure, Result.andThen_ok, List.map_toArray, List.map_cons, List.map_nil, hs, hx, hr]
 exact h a' n' c' w' g1 g2 g3
end
end Go.Proofs.YtpcnlifmkhagkaaGreat
