import Derived.Test.YtpcnlifmkhagkaaKAJ05
import Derived.Lib.AppendZeros
set_option maxRecDepth 20000
set_option maxHeartbeats 20000000
namespace Go.Proofs.Ytpcnlifmkhagkaa
open Go.RowKit
open Go.Value renaming slice → G, int → E
open Go.IntKind renaming i64 → J
open _root_.Option renaming none → U
open Go.Obj renaming cells → T
open Go.RowKit renaming Hid → Q, Below → Z
open _root_.Or renaming inl → kaa, inr → kab
open Go.RowKit.Below renaming refl → kac
open _root_.Nat renaming zero_le → kad
open _root_.List renaming take_of_length_le → kae
attribute [local go_sem ↓] Go.wp_at_zero Go.wp_at_succ
structure Mild (L : List R3) : Prop where
 ok : OkL L
 within : ∀ k, k ≤ L.length → zbl 2199023255552 (ze (L.take k)).1
 bound : zen (ze L)
theorem Mild.calc {L : List R3} (H : Mild L) (h : L.length * 40 ≤ 140737488355328) : zc9 L := ⟨H.ok, H.within, h⟩
theorem zo9 {B : Int} {s : S4} (h : zbl B s) {k : Int} (hk : zb6 k = true) : ((za7 s k).natAbs : Int) ≤ B := by
 obtain ⟨a, b, c, d⟩ := h;rcases zg4.1 hk with rfl | rfl | rfl | rfl
 ·show ((s.1).natAbs : Int) ≤ B; omega
 ·show ((s.2.1).natAbs : Int) ≤ B; omega
 ·show ((s.2.2.1).natAbs : Int) ≤ B; omega
 ·show ((s.2.2.2).natAbs : Int) ≤ B; omega
theorem Mild.right {L : List R3} (h : zin L = true) : Mild L := by
 obtain ⟨hok, hl⟩ := zqi h;have hC := zc9.of hok (by omega);have hi := zfx hok;refine ⟨hok, hC.within, fun x hx => ?_, hi.ok, fun k hk => ?_⟩
 ·obtain ⟨jj, hr, rfl⟩ := zqg hx
  simp only [zin, Bool.and_eq_true, List.all_eq_true] at h
  have := h.1 jj hr;simp only [zik, Bool.and_eq_true, Bool.not_eq_true', decide_eq_false_iff_not] at this
  show 0 ≤ jj.2.1
  omega
 ·have h1 := zo9 hi.within hk
  have h2 := potD_le (k := k) hi.ok;have h3 := hi.few;omega
theorem Mild.note {L : List R3} (H : Mild L) {jj : R3} (hr : OkP jj.2.2) (hb : zen (zbg (ze L) jj)) : Mild (L ++ [jj]) := by
 refine ⟨?_, ?_, by rw [zey]; exact hb⟩
 ·intro q hq
  rcases List.mem_append.1 hq with hq | hq
  ·exact H.ok q hq
  ·rw [List.mem_singleton.1 hq]; exact hr
 ·intro k hk
  by_cases h : k ≤ L.length
  ·rw [List.take_append_of_le_length h]
   exact H.within k h
  ·rw [kae (by simp; omega), zey]
   exact hb.within
theorem Mild.hear {L : List R3} (H : Mild L) {k d c : Int} {l : List P3} (hw : zbd k d c l = 0) : Mild (zr L k d l) := by
 obtain ⟨h1, h2, h3, h4, h5, h6⟩ := zhw hw;rcases zj5 (ze L) k d l with h' | ⟨rfl, hv, hn, h'⟩ | ⟨rfl, hn, h'⟩ | ⟨rfl, hn, h'⟩
 ·rw [zfb h']; exact H
 ·rw [zd6 h']
  obtain ⟨h7, h8⟩ := h6 rfl;exact H.note (zfd h7) (H.bound.ready h1 h7 h8 hv hn)
 ·rw [zd6 h']; exact H.note zea (H.bound.done hn)
 ·rw [zd6 h']; exact H.note zea H.bound.drop
section
theorem idx4_0 (v0 v1 v2 v3 : Value) (w : World) : (Instr.index 98 (.agg #[v0, v1, v2, v3]) (E J 0)).run Try.prog w = .ok v0 w := by kernel_rfl
theorem idx4_1 (v0 v1 v2 v3 : Value) (w : World) : (Instr.index 98 (.agg #[v0, v1, v2, v3]) (E J 1)).run Try.prog w = .ok v1 w := by kernel_rfl
theorem idx4_2 (v0 v1 v2 v3 : Value) (w : World) : (Instr.index 98 (.agg #[v0, v1, v2, v3]) (E J 2)).run Try.prog w = .ok v2 w := by kernel_rfl
theorem idx4_3 (v0 v1 v2 v3 : Value) (w : World) : (Instr.index 98 (.agg #[v0, v1, v2, v3]) (E J 3)).run Try.prog w = .ok v3 w := by kernel_rfl
attribute [local go_sem ↓] idx4_0 idx4_1 idx4_2 idx4_3
def sv (s : S4) : Value := .agg #[E J s.1, E J s.2.1, E J s.2.2.1, E J s.2.2.2]
end
theorem zo8 (a : Option Addr) (l : List Int) (cap n : Nat) (d : Int) (w : World) (hn : n = l.length) (hl : l.length ≤ 9223372036854775807) (hp : zk 1 zv w a l) :
  Calls Try.prog 59 #[G a n cap, E J d] w fun e w' => ∃ jj : Int, e = .returned (E J jj) ∧ decide (0 ≤ jj) = inI l d ∧ Z w.heap.size w w' := by
 have HN := zB hn hp;have hnl : n ≤ 9223372036854775807 := by omega
 clear hn hp hl;go_enter Try.func59, Try.ntmps59
 go_wp2;go_loopw [8] (fun i w' => ∃ k : Nat, k ≤ n ∧ i = E J k ∧ Q (inI (l.take k) d = false) ∧ Z w.heap.size w w') (fun i _ => n - (intOf i).toNat)
 case atStart => exact ⟨0, kad _, rfl, rfl, kac _ _⟩
 case round =>
  obtain ⟨k, hk, rfl, hno, hbw⟩ := hrel;by_cases hlt : k < n
  ·have hkl : k < l.length := by have := HN.out.1; omega
   rcases HN.out.2.below hbw with h0 | ⟨g, o, rfl, hg, hc⟩
   ·rw [h0] at hkl; simp at hkl
   have d0 := hc k hkl 0 _ rfl;simp only [Nat.mul_one, Nat.add_zero] at d0
   have HA : Q (l[k] = d → inI l d = true) := fun h => by
    unfold inI
    rw [List.any_eq_true];exact ⟨_, List.getElem_mem hkl, by simpa using h⟩
   have HB : Q (¬ l[k] = d → inI (l.take (k + 1)) d = false) := fun h => by
    rw [zax hkl, zhh, hno.out, decide_eq_false h]; rfl
   clear hc hno;generalize l[k] = x at *;by_cases hd : d = x
   ·have HF : Q (decide (0 ≤ (k : Int)) = inI l d) := by show _ = _; rw [HA.out hd.symm]; simp
    subst hd;clear HA HB;go_wp2;go_ret;exact ⟨_, rfl, HF.out, hbw⟩
   ·have HF := zA (HB.out (fun e => hd e.symm))
    have hd' : (d == x) = false := by simpa using hd
    clear HA HB hd;go_wp2;go_roundw
    case rel => exact ⟨k + 1, by omega, by go_num, HF, hbw⟩
    case measure => simp [intOf]; omega
  ·have HF : Q (decide (0 ≤ (-1 : Int)) = inI l d) := by have := hno.out; rw [kae (by have := HN.out.1; omega)] at this; rw [this]; rfl
   clear hno;go_wp2;go_ret;exact ⟨_, rfl, HF.out, hbw⟩
theorem zl7 (a : Option Addr) (l : List Int) (cap n : Nat) (d : Int) (w : World) (hn : n = l.length) (hl : l.length ≤ 9223372036854775807) (hp : zk 1 zv w a l) :
  Calls Try.prog 39 #[G a n cap, E J d] w fun e w' => e = .returned (.bool (inI l d)) ∧ Z w.heap.size w w' := by
 have HC := zo8 a l cap n d w hn hl hp;clear hn hl hp;go_enter Try.func39, Try.ntmps39
 go_wp2_with fail
 refine HC.mono ?_;rintro e w1 ⟨i, rfl, hi, hb1⟩;have HI := zA hi;clear hi HC;go_wp2;go_ret;exact ⟨zf3 HI.out, hb1⟩
theorem grow_any (n : Nat) (w : World) (h1 : 1 ≤ n) (hl : n ≤ 3518437208883) :
  Calls Try.prog 64 #[G U 0 0, E J n] w fun e w' => ∃ a c, e = .returned (G a 0 c) ∧ zd 68 3 zaj w' w.heap.size (G a 0 c) [] ∧ Z w.heap.size w w' := by
 obtain ⟨i0, hi, hz0, hz1, hz2⟩ := info_parts zcl;have hrun := fun ty => Lib.run_append_nil_zeros (P := Try.prog) w 26 3 ty 68 i0 _ J J Try.underlying26 Try.underlying3 hi hz0 n (by omega) (by rw [hz1]; decide) (by omega) (by rw [hz2]; omega)
 have hge := grownCap_ge w n 0 68;have hle := grownCap_le_maxLen w n 0 68 (by unfold maxLen; omega);clear hi hz0 hz1 hz2
 have HO : Q (zd 68 3 zaj (w.drew.alloc (T (Builtin.zeroCells (Value.agg #[E J 0, E J 0, G U 0 0]).cells n ++ Builtin.zeroCells (Value.agg #[E J 0, E J 0, G U 0 0]).cells (grownCap w n 0 68 - n)) 68)) w.heap.size (G (some ⟨w.heap.size, 0, U⟩) 0 (grownCap w n 0 68)) [] ∧ Z w.heap.size w (w.drew.alloc (T (Builtin.zeroCells (Value.agg #[E J 0, E J 0, G U 0 0]).cells n ++ Builtin.zeroCells (Value.agg #[E J 0, E J 0, G U 0 0]).cells (grownCap w n 0 68 - n)) 68))) := by
  refine ⟨World.ownsRow_made w.drew _ _ (Nat.le_refl _) hle ?_, ((kac _ w).drew).alloc (by simp) _⟩;simp [Builtin.zeroCells, Value.cells]
  omega
 have HR : Q _ := hrun;clear hrun;generalize grownCap w n 0 68 = gc at *;generalize w.drew.alloc (T (Builtin.zeroCells (Value.agg #[E J 0, E J 0, G U 0 0]).cells n ++ Builtin.zeroCells (Value.agg #[E J 0, E J 0, G U 0 0]).cells (gc - n)) 68) = W at *;have hn0 : (0 : Int) < (n : Int) := by omega
 go_enter Try.func64, Try.ntmps64
 go_wp2_with (at_builtin; refine Lib.wpList_append_run _ rfl _ _ _ _ rfl _ _ rfl rfl _ _ (HR.out _) ?_)
 go_wp2;go_ret;exact ⟨_, _, rfl, HO.out.1, HO.out.2⟩
theorem zod (b2 : Nat) (a1 a2 : Option Addr) (X1 X2 : List XL) (n1 n2 c1 c2 : Nat) (w : World) (hb : b2 < w.heap.size) (d0 : w.cell? ⟨b2, 0, U⟩ = some (G a1 n1 c1)) (d1 : w.cell? ⟨b2, 1, U⟩ = some (G a2 n2 c2)) (hn1 : n1 = X1.length) (hn2 : n2 = X2.length) (hl12 : X1.length + X2.length ≤ 3518437208883) (h1 : 1 ≤ X1.length + X2.length) (hp1 : zk 3 zaj w a1 X1) (hp2 : zk 3 zaj w a2 X2) :
  Calls Try.prog 43 #[G (some ⟨b2, 0, U⟩) 2 2] w fun e w' => ∃ a' n' c', e = .returned (G a' n' c') ∧ zd 68 3 zaj w' w.heap.size (G a' n' c') (X1 ++ X2) ∧ Z w.heap.size w w' := by
 have HP := zD hn1 hn2 hp1 hp2;have hs1 : n1 + n2 ≤ 3518437208883 := by omega
 have hs3 : 1 ≤ n1 + n2 := by omega
 clear hn1 hn2 hp1 hp2;go_enter Try.func43, Try.ntmps43
 go_wp2;go_loopw [3, 11] (fun s i w' => (i = E J 0 ∧ s = E J 0 ∨ i = E J 1 ∧ s = E J (n1 : Int) ∨ i = E J 2 ∧ s = E J ((n1 + n2 : Nat) : Int)) ∧ Z w.heap.size w w') (fun _ i _ => 2 - (intOf i).toNat)
 case atStart => exact ⟨kaa ⟨rfl, rfl⟩, kac _ _⟩
 case round =>
  obtain ⟨hc, hbr⟩ := hrel;have e0 := (hbr.cell (p := ⟨b2, 0, U⟩) hb).trans d0;have e1 := (hbr.cell (p := ⟨b2, 1, U⟩) hb).trans d1;have hsr := hbr.size;rcases hc with ⟨rfl, rfl⟩ | ⟨rfl, rfl⟩ | ⟨rfl, rfl⟩
  ·have g0 : ¬ (n1 : Int) < 0 := by omega
   clear d0 d1;go_wp2;go_roundw
   case rel => exact ⟨kab (kaa ⟨rfl, by go_num⟩), hbr⟩
   case measure => simp [intOf]
  ·have g0 : ¬ (n1 : Int) + (n2 : Int) < 0 := by omega
   clear d0 d1;go_wp2;go_roundw
   case rel => exact ⟨kab (kab ⟨rfl, by go_num⟩), hbr⟩
   case measure => simp [intOf]
  ·clear e0 e1
   go_wp2_with fail
   refine (grow_any (n1 + n2) _ hs3 (by omega)).mono ?_;rintro e w1 ⟨ag, cg, rfl, ho1, hb1⟩;have HG := zB (ho1.mono hsr) (hbr.trans (hb1.mono hsr));have HC := zB d0 d1;clear ho1 hb1 d0 d1 hbr hsr;generalize wr = wo at *;go_wp2;go_loopw [6, 27] (fun v i w' => ∃ (av : Option Addr) (nv cv : Nat), v = G av nv cv ∧ (i = E J 0 ∧ zd 68 3 zaj w' w.heap.size (G av nv cv) [] ∨ i = E J 1 ∧ zd 68 3 zaj w' w.heap.size (G av nv cv) X1 ∨ i = E J 2 ∧ zd 68 3 zaj w' w.heap.size (G av nv cv) (X1 ++ X2)) ∧ Z w.heap.size w w') (fun _ i _ => 2 - (intOf i).toNat)
   case atStart => exact ⟨ag, 0, cg, rfl, kaa ⟨rfl, HG.out.1⟩, HG.out.2⟩
   case round =>
    obtain ⟨av, nv, cv, rfl, hc, hbw⟩ := hrel;have e0 := (hbw.cell (p := ⟨b2, 0, U⟩) hb).trans HC.out.1;have e1 := (hbw.cell (p := ⟨b2, 1, U⟩) hb).trans HC.out.2;have hsw := hbw.size;rcases hc with ⟨rfl, jx⟩ | ⟨rfl, jx⟩ | ⟨rfl, jx⟩
    ·have HO := zA jx
     clear jx;go_wp2_with (at_builtin; refine zbj za4 zcr Try.underlying26 zcl rfl (by decide) _ rfl _ _ rfl w.heap.size _ [] rfl HO.out a1 n1 c1 X1 rfl HP.out.1 (HP.out.2.2.1.below hbw) (by unfold maxLen; simp; omega) (by simp; omega) hsw ?_; intro a4 n4 c4 w4 jv hn4 jy jQ; clear hn4 jQ)
     have HF : Q (zd 68 3 zaj w4 w.heap.size (G a4 n4 c4) X1 ∧ Z w.heap.size w w4) := ⟨by rw [List.nil_append] at jv; exact jv, hbw.grown jy hsw HO.out.base⟩;clear jy jv;go_wp2;go_roundw
     case rel => exact ⟨a4, n4, c4, rfl, kab (kaa ⟨rfl, HF.out.1⟩), HF.out.2⟩
     case measure => simp [intOf]
    ·have HO := zA jx
     clear jx;go_wp2_with (at_builtin; refine zbj za4 zcr Try.underlying26 zcl rfl (by decide) _ rfl _ _ rfl w.heap.size _ X1 rfl HO.out a2 n2 c2 X2 rfl HP.out.2.1 (HP.out.2.2.2.below hbw) (by unfold maxLen; omega) (by omega) hsw ?_; intro a4 n4 c4 w4 jv hn4 jy jQ; clear hn4 jQ)
     have HF : Q (zd 68 3 zaj w4 w.heap.size (G a4 n4 c4) (X1 ++ X2) ∧ Z w.heap.size w w4) := ⟨jv, hbw.grown jy hsw HO.out.base⟩;clear jy jv;go_wp2;go_roundw
     case rel => exact ⟨a4, n4, c4, rfl, kab (kab ⟨rfl, HF.out.1⟩), HF.out.2⟩
     case measure => simp [intOf]
    ·go_wp2
     go_ret;exact ⟨av, nv, cv, rfl, jx, hbw⟩
section
variable {α : Type}
def zak (e : TypeId) (size : Nat) (enc : α → List Value) (w : World) (B : Nat) (v : Value) (xs : List α) : Prop :=
 zd e size enc w B v xs ∨ (xs = [] ∧ ∃ g, v = G (some ⟨g, 0, U⟩) 0 0 ∧ Blk w g #[] e)
variable {e : TypeId} {size : Nat} {enc : α → List Value} {w w' : World} {B : Nat} {v : Value} {xs : List α}
theorem zak.made {g : Nat} (h : Blk w g #[] e) (B : Nat) : zak e size enc w B (G (some ⟨g, 0, U⟩) 0 0) [] := kab ⟨rfl, g, rfl, h⟩
theorem zak.own (h : zd e size enc w B v xs) : zak e size enc w B v xs := kaa h
theorem zak.below (h : zak e size enc w B v xs) (hb : Z w.heap.size w w') : zak e size enc w' B v xs := by
 rcases h with h | ⟨h0, g, hv, hg⟩
 ·exact kaa (h.below hb (Nat.le_refl _))
 ·exact kab ⟨h0, g, hv, hg.below hb hg.lt⟩
theorem zak.at {a : Option Addr} {n cap : Nat} (he : ∀ x, (enc x).length = size) (h : zak e size enc w B (G a n cap) xs) : zk size enc w a xs ∧ n = xs.length ∧ xs.length ≤ cap ∧ cap ≤ maxLen := by
 rcases h with h | ⟨h0, g, hv, hg⟩
 ·obtain ⟨a', cap', hv, jX, h1, h2⟩ := h.row he
  cases hv;exact ⟨jX, rfl, h1, h2⟩
 ·cases hv
  subst h0;exact ⟨kaa rfl, rfl, Nat.le_refl _, kad _⟩
theorem zak.slice (he : ∀ x, (enc x).length = size) (h : zak e size enc w B v xs) : ∃ a n cap, v = G a n cap := by
 rcases h with h | ⟨h0, g, hv, hg⟩
 ·obtain ⟨a, cap, hv, _⟩ := h.row he
  exact ⟨a, _, cap, hv⟩
 ·exact ⟨_, _, _, hv⟩
theorem zmn {bytes : Nat} {t : TypeId} {z : Value} (he : ∀ x, (enc x).length = size) (h1 : ∀ x, ∀ u ∈ enc x, u.oneCell' = true) (ht : Try.prog.underlying t = some (.slice e))
  (hinfo : (Try.prog.info? e).map (fun i => (i.zero, i.size, i.bytes)) = some (some z, size, bytes)) (hzs : z.cells.size = size) (h0 : 0 < size) (ty : TypeId)
  (jx : zak e size enc w B v xs) (ad : Option Addr) (m c : Nat) (ys : List α) (hm : m = ys.length) (hsrc : zk size enc w ad ys)
  (hml : xs.length + ys.length ≤ maxLen) (hl : (xs.length + ys.length) * bytes ≤ 140737488355328) (hB : B ≤ w.heap.size) :
  ∃ a' n' c' w', (Builtin.append_ #[t, t] ty #[v, G ad m c]).run Try.prog w = .ok (G a' n' c') w' ∧ zak e size enc w' B (G a' n' c') (xs ++ ys) ∧ n' = xs.length + ys.length ∧ Z B w w' := by
 subst hm;obtain ⟨i0, hi, hz0, hz1, hz2⟩ := info_parts hinfo;rcases jx with jx | ⟨rfl, g, rfl, hg⟩
 ·obtain ⟨v', w', hr, g1, g2, _⟩ := ziw (P := Try.prog) w B t ty e i0 _ size bytes ht hi hz0 hz1 hz2 hzs h0 v xs.length (zx enc xs) jx ad ys.length c (zx enc ys) (hsrc.src he h0) (zhr h1 ys) hml hl hB
  have hO : zd e size enc w' B v' (xs ++ ys) := by
   unfold zd
   rw [zfg, List.length_append];exact g1
  obtain ⟨a', c', hv, _⟩ := hO.row he;rw [List.length_append] at hv;subst hv;refine ⟨a', _, c', w', hr, kaa hO, rfl, (kac B w).grown g2 hB (fun k hk => (World.ownsRow.lt jx k hk).1)⟩
 ·simp only [List.length_nil, Nat.zero_add, List.nil_append] at hml hl ⊢
  rcases hsrc with rfl | ⟨b, o, rfl, hlt, hc⟩
  ·have hroom := fun (x : Value) (hs : Src Try.prog i0.size t x 0 [] w) => run_append_room_src (P := Try.prog) w t t ty e i0 ht hi g 0 0 0 x 0 [] hs (by omega) (fun j hj => by simp at hj) (fun j hj => by simp at hj)
   have hr : (Builtin.append_ #[t, t] ty #[G (some ⟨g, 0, U⟩) 0 0, G ad 0 c]).run Try.prog w = .ok (G (some ⟨g, 0, U⟩) 0 0) w := by
    cases ad with
    | none => exact hroom _ (Src.ofNil w ht c)
    | some a0 => exact hroom _ (Src.ofSlice w ht a0 0 c [] (by simp) (fun j u hj => by simp at hj) (fun u hu => by cases hu))
   exact ⟨_, _, _, w, hr, kab ⟨rfl, g, rfl, hg⟩, rfl, kac _ _⟩
  ·by_cases hy : ys = []
   ·subst hy
    have hroom := run_append_room_src (P := Try.prog) w t t ty e i0 ht hi g 0 0 0 _ 0 [] (Src.ofSlice w ht ⟨b, o, U⟩ 0 c [] (by simp) (fun j u hj => by simp at hj) (fun u hu => by cases hu)) (by omega) (fun j hj => by simp at hj) (fun j hj => by simp at hj);exact ⟨_, _, _, w, hroom, kab ⟨rfl, g, rfl, hg⟩, rfl, kac _ _⟩
   ·have hpos := List.length_pos_iff.2 hy
    have hs : zk size enc w (some ⟨b, o, U⟩) ys := kab ⟨b, o, rfl, hlt, hc⟩;have hS := hs.src he h0;obtain ⟨hS1, hS2⟩ := hS
    have hS3 : ∀ j u, (zx enc ys)[j]? = some u → w.cell? ((⟨b, o, U⟩ : Addr).add j) = some u := by
     rcases hS2 with h | ⟨a0, ha, h⟩
     ·omega
     ·cases ha; exact h
    have hmade : w.ownsRow 0 e size (G (some ⟨g, 0, U⟩) 0 0) 0 [] := ⟨by simp, kab ⟨g, 0, #[], rfl, kad _, hg, Nat.le_refl _, kad _, by simp, by simp⟩⟩;obtain ⟨v', w', hr, g1, g2, _, g3⟩ := run_append_own_at (P := Try.prog) w 0 t ty e i0 _ size bytes ht hi hz0 hz1 hz2 hzs h0 _ 0 [] hmade ⟨b, o, U⟩ ys.length c (zx enc ys) hS1 hS3 (zhr h1 ys) (by omega) (by rw [Nat.zero_add]; exact hl) (kad _);have hr2 := run_append_grow (P := Try.prog) w t ty e i0 _ ht hi hz0 ⟨g, 0, U⟩ 0 0 [] (by simp) (fun j u hj => by simp at hj) ⟨b, o, U⟩ ys.length c (zx enc ys) (by rw [hz1]; exact hS1) hS3 (by omega) (by unfold maxLen at hml; omega) (by rw [Nat.zero_add, nextslicecap_zero hpos, hz2]; omega);rw [hr2] at hr;injection hr with hv hw
    subst hv;rw [← hw] at g1
    have hO : zd e size enc (w.drew.alloc (T (([] : List Value).toArray ++ (zx enc ys).toArray ++ Builtin.zeroCells z.cells (grownCap w (0 + ys.length) 0 e - (0 + ys.length))) e)) B (G (some ⟨w.heap.size, 0, U⟩) (0 + ys.length) (grownCap w (0 + ys.length) 0 e)) ys := by
     rw [List.nil_append] at g1;obtain ⟨q1, q2⟩ := g1;rw [Nat.zero_add] at q1 q2 ⊢
     refine ⟨q1, ?_⟩;rcases q2 with ⟨q3, _⟩ | ⟨g', cap', cur, q3, _, q5⟩
     ·cases q3
     ·cases q3
      exact kab ⟨_, _, cur, rfl, hB, q5⟩
    refine ⟨_, _, _, _, hr2, kaa hO, by omega, ?_⟩;exact ((kac B w).drew).alloc (by simpa using hB) _
theorem zhl {bytes : Nat} {t : TypeId} {z : Value} (he : ∀ x, (enc x).length = size) (h1 : ∀ x, ∀ u ∈ enc x, u.oneCell' = true) (ht : Try.prog.underlying t = some (.slice e))
  (hinfo : (Try.prog.info? e).map (fun i => (i.zero, i.size, i.bytes)) = some (some z, size, bytes)) (hzs : z.cells.size = size) (h0 : 0 < size)
  {ops : Array Oper} {rest : List Oper} {o : Oper} {a : Act} {zZ : Exit → Act → World → Prop} (w : World) (hgd : o.guard = U) (s x : Operand)
  (ho : o.op = .call { callee := .builtin .append, args := #[s, x], argTypes := #[t, t] })
  (B : Nat) (v : Value) (xs : List α) (hs : a.eval s = v) (jx : zak e size enc w B v xs) (ad : Option Addr) (m c : Nat) (ys : List α) (hx : a.eval x = G ad m c) (hm : m = ys.length) (hsrc : zk size enc w ad ys)
  (hml : xs.length + ys.length ≤ maxLen) (hl : (xs.length + ys.length) * bytes ≤ 140737488355328) (hB : B ≤ w.heap.size)
  (h : ∀ a' n' c' w', zak e size enc w' B (G a' n' c') (xs ++ ys) → n' = xs.length + ys.length → Z B w w' → wpList Try.prog ops zZ rest (a.put o.dst (G a' n' c')) w') : wpList Try.prog ops zZ (o :: rest) a w := by
 refine wpList_plain hgd fun K hK => ?_
 obtain ⟨a', n', c', w', hr, g1, g2, g3⟩ := zmn (w := w) he h1 ht hinfo hzs h0 o.type jx ad m c ys hm hsrc hml hl hB;unfold Oper.wp execOp
 simp only [ho, resolve, invoke, builtin, Sem.run_bind, Sem.run_pure, Result.andThen_ok, List.map_toArray, List.map_cons, List.map_nil, hs, hx, hr]
 exact hK _ _ (h a' n' c' w' g1 g2 g3)
theorem zb3 {bytes : Nat} {t : TypeId} {z : Value} (he : ∀ x, (enc x).length = size) (h1 : ∀ x, ∀ u ∈ enc x, u.oneCell' = true) (ht : Try.prog.underlying t = some (.slice e))
  (hinfo : (Try.prog.info? e).map (fun i => (i.zero, i.size, i.bytes)) = some (some z, size, bytes)) (hzs : z.cells.size = size) (h0 : 0 < size)
  {ops : Array Oper} {o : Oper} {a : Act} {K : Act → World → Prop} {zZ : Exit → Act → World → Prop} {zQ : Prop} (w : World) (hw : Region.wanted o (yielded ops a.tmps) = true) (s x : Operand)
  (ho : o.op = .call { callee := .builtin .append, args := #[s, x], argTypes := #[t, t] })
  (B : Nat) (v : Value) (xs : List α) (hs : a.eval s = v) (jx : zak e size enc w B v xs) (ad : Option Addr) (m c : Nat) (ys : List α) (hx : a.eval x = G ad m c) (hm : m = ys.length) (hsrc : zk size enc w ad ys)
  (hml : xs.length + ys.length ≤ maxLen) (hl : (xs.length + ys.length) * bytes ≤ 140737488355328) (hB : B ≤ w.heap.size)
  (h : ∀ a' n' c' w', zak e size enc w' B (G a' n' c') (xs ++ ys) → n' = xs.length + ys.length → Z B w w' → K (a.put o.dst (G a' n' c')) w') : if Region.wanted o (yielded ops a.tmps) = true then Oper.wp Try.prog o a w K zZ else zQ := by
 rw [if_pos hw];obtain ⟨a', n', c', w', hr, g1, g2, g3⟩ := zmn (w := w) he h1 ht hinfo hzs h0 o.type jx ad m c ys hm hsrc hml hl hB;unfold Oper.wp execOp
 simp only [ho, resolve, invoke, builtin, Sem.run_bind, Sem.run_pure, Result.andThen_ok, List.map_toArray, List.map_cons, List.map_nil, hs, hx, hr]
 exact h a' n' c' w' g1 g2 g3
end
theorem zfq (a : Option Addr) (l : List Int) (cap n : Nat) (d : Int) (w : World) (hn : n = l.length) (hl : l.length ≤ 9223372036854775807) (hp : zk 1 zv w a l) :
  Calls Try.prog 74 #[G a n cap, E J d] w fun e w' => e = .returned (.bool (inI l d)) ∧ Z w.heap.size w w' := by
 have HN := zB hn hp;have hnl : n ≤ 9223372036854775807 := by omega
 clear hn hp hl;go_enter Try.func74, Try.ntmps74
 go_wp2;go_loopw [9] (fun i w' => ∃ k : Nat, k ≤ n ∧ i = E J k ∧ Q (inI (l.take k) d = false) ∧ Z w.heap.size w w') (fun i _ => n - (intOf i).toNat)
 case atStart => exact ⟨0, kad _, rfl, rfl, kac _ _⟩
 case round =>
  obtain ⟨k, hk, rfl, hno, hbw⟩ := hrel;by_cases hlt : k < n
  ·have hkl : k < l.length := by have := HN.out.1; omega
   rcases HN.out.2.below hbw with h0 | ⟨g, o, rfl, hg, hc⟩
   ·rw [h0] at hkl; simp at hkl
   have d0 := hc k hkl 0 _ rfl;simp only [Nat.mul_one, Nat.add_zero] at d0
   have HA : Q (l[k] = d → inI l d = true) := fun h => by
    unfold inI
    rw [List.any_eq_true];exact ⟨_, List.getElem_mem hkl, by simpa using h⟩
   have HB : Q (¬ l[k] = d → inI (l.take (k + 1)) d = false) := fun h => by
    rw [zax hkl, zhh, hno.out, decide_eq_false h]; rfl
   clear hc hno;generalize l[k] = x at *;by_cases hd : x = d
   ·have HF := zA (HA.out hd)
    subst hd;clear HA HB;go_wp2;go_ret;exact ⟨zf3 HF.out.symm, hbw⟩
   ·have HF := zA (HB.out hd)
    have hd' : (x == d) = false := by simpa using hd
    clear HA HB hd;go_wp2;go_roundw
    case rel => exact ⟨k + 1, by omega, by go_num, HF, hbw⟩
    case measure => simp [intOf]; omega
  ·have HF : Q (inI l d = false) := by have := hno.out; rwa [kae (by have := HN.out.1; omega)] at this
   clear hno;go_wp2;go_ret;exact ⟨zf3 HF.out.symm, hbw⟩
theorem hasD_snoc (D : List D2) (x : D2) (d : Int) : zad (D ++ [x]) d = (zad D d || decide (x.1 = d)) := by simp [zad]
theorem zh3 (la ra da : Option Addr) (nl lc nr rc nd dc : Nat) (s0 s1 s2 s3 d : Int) (XR : List XD) (D : List D2) (w : World) (h : ze9 w ra nr XR D) :
  Calls Try.prog 72 #[.agg #[G la nl lc, E J s0, E J s1, E J s2, E J s3, G ra nr rc, G da nd dc], E J d] w fun e w' => e = .returned (.bool (zad D d)) ∧ Z w.heap.size w w' := by
 have HN := zA h;have hnl : nr ≤ 9223372036854775807 := by have := h.n; have := h.few; omega
 clear h;go_enter Try.func72, Try.ntmps72
 go_wp2;have hb0 := zi w (T #[G la nl lc, E J s0, E J s1, E J s2, E J s3, G ra nr rc, G da nd dc] 100);generalize w.alloc (T #[G la nl lc, E J s0, E J s1, E J s2, E J s3, G ra nr rc, G da nd dc] 100) = W at *;go_loopw [10] (fun i w' => ∃ k : Nat, k ≤ nr ∧ i = E J k ∧ Q (zad (D.take k) d = false) ∧ Z w.heap.size w w') (fun i _ => nr - (intOf i).toNat)
 case atStart => exact ⟨0, kad _, rfl, rfl, hb0⟩
 case round =>
  obtain ⟨k, hk, rfl, hno, hbw⟩ := hrel;have hsz := hbw.size;by_cases hlt : k < nr
  ·have hkX : k < XR.length := by have := HN.out.n; omega
   have hkD : k < D.length := by rw [← HN.out.says, List.length_map]; exact hkX
   have hDk : D[k].1 = XR[k].1 := by
    have : D = XR.map zba := HN.out.says.symm;subst this;rw [List.getElem_map];rfl
   obtain ⟨g, o, rfl, hg, d0, d1, hq⟩ := (HN.out.lies.below hbw).get hkX
   have HA : Q (XR[k].1 = d → zad D d = true) := fun h => by
    unfold zad
    rw [List.any_eq_true];exact ⟨_, List.getElem_mem hkD, by rw [hDk]; simpa using h⟩
   have HB : Q (¬ XR[k].1 = d → zad (D.take (k + 1)) d = false) := fun h => by
    rw [zax hkD, hasD_snoc, hno.out, hDk, decide_eq_false h]; rfl
   clear hno hDk hkD hq;generalize XR[k] = x at *;obtain ⟨dd, ⟨ax, cx⟩, l⟩ := x;simp only at d0 d1 HA HB
   generalize l.length = n2 at *;have hBn : Z w.heap.size w (wr.alloc (T #[E J dd, G ax n2 cx] 70)) := hbw.trans ((zi wr _).mono hsz);by_cases hd : dd = d
   ·have HF := zA (HA.out hd)
    subst hd;clear HA HB;go_wp2;go_ret;exact ⟨zf3 HF.out.symm, hBn⟩
   ·have HF := zA (HB.out hd)
    have hd' : (dd == d) = false := by simpa using hd
    clear HA HB hd;go_wp2;go_roundw
    case rel => exact ⟨k + 1, by omega, by go_num, HF, hBn⟩
    case measure => simp [intOf]; omega
  ·have HF : Q (zad D d = false) := by
    have := hno.out;rwa [kae (by have h1 := HN.out.n; have h2 := congrArg List.length HN.out.says; simp at h2; omega)] at this
   clear hno;go_wp2;go_ret;exact ⟨zf3 HF.out.symm, hbw⟩
theorem zng (la ra da pa : Option Addr) (nl lc nr rc nd dc np pc : Nat) (s0 s1 s2 s3 d : Int) (XR : List XD) (D : List D2) (dn : List Int) (l : List P3) (w : World) (h : ze9 w ra nr XR D) (hnd : nd = dn.length) (hdl : dn.length ≤ 9223372036854775807) (hdn : zk 1 zv w da dn)
  (hnp : np = l.length) (hok : OkP l) (hq : zal w pa l) (hw : zbl 2199023255552 (s0, s1, s2, s3)) :
  Calls Try.prog 71 #[.agg #[G la nl lc, E J s0, E J s1, E J s2, E J s3, G ra nr rc, G da nd dc], E J d, G pa np pc] w fun e w' => e = .returned (E J (zcv ((s0, s1, s2, s3), D, dn) d l)) ∧ Z w.heap.size w w' := by
 have HN : Q (ze9 w ra nr XR D ∧ (nd = dn.length ∧ dn.length ≤ 9223372036854775807 ∧ zk 1 zv w da dn) ∧ (np = l.length ∧ OkP l ∧ zal w pa l) ∧ zbl 2199023255552 (s0, s1, s2, s3)) := ⟨h, ⟨hnd, hdl, hdn⟩, ⟨hnp, hok, hq⟩, hw⟩;have hnp4 : np ≤ 4 := by have := hok.1; omega
 clear h hnd hdl hdn hnp hok hq hw;have hb0 := zi w (T #[G la nl lc, E J s0, E J s1, E J s2, E J s3, G ra nr rc, G da nd dc] 100);have hh0 : Blk (w.alloc (T #[G la nl lc, E J s0, E J s1, E J s2, E J s3, G ra nr rc, G da nd dc] 100)) w.heap.size #[G la nl lc, E J s0, E J s1, E J s2, E J s3, G ra nr rc, G da nd dc] 100 := Blk.new _ _ _;go_enter Try.func71, Try.ntmps71
 go_wp2_with fail
 generalize w.alloc (T #[G la nl lc, E J s0, E J s1, E J s2, E J s3, G ra nr rc, G da nd dc] 100) = W at *;refine (zfq da dn dc nd d W HN.out.2.1.1 HN.out.2.1.2.1 (HN.out.2.1.2.2.below hb0)).mono ?_;rintro e w1 ⟨rfl, hb1⟩;have hB1 := hb0.trans (hb1.mono hb0.size);have hh1 := hh0.below hb1 hh0.lt;clear hb1 hb0 hh0;cases hz1 : inI dn d
 ·have q0 := hh1.cell 0
  have q1 := hh1.cell 1;have q2 := hh1.cell 2;have q3 := hh1.cell 3;have q4 := hh1.cell 4;have q5 := hh1.cell 5;have q6 := hh1.cell 6;have hql := hh1.lt;simp at q0 q1 q2 q3 q4 q5 q6
  have HZ1 := zA hz1;clear hz1;go_wp2_with fail
  refine (zh3 la ra da nl lc nr rc nd dc s0 s1 s2 s3 d XR D w1 (HN.out.1.below hB1)).mono ?_;rintro e w2 ⟨rfl, hb2⟩;have hB2 := hB1.trans (hb2.mono hB1.size);have hh2 := hh1.below hb2 hh1.lt;clear hb2 hh1 hB1 q0 q1 q2 q3 q4 q5 q6 hql;cases hz2 : zad D d
  ·have HZ2 := zA hz2
   clear hz2;go_wp2;go_loopw [18] (fun i w' => ∃ k : Nat, k ≤ np ∧ i = E J k ∧ Q (zet D (l.take k) = false) ∧ Z w2.heap.size w2 w') (fun i _ => np - (intOf i).toNat)
   case atStart => exact ⟨0, kad _, rfl, rfl, kac _ _⟩
   case round =>
    obtain ⟨k, hk, rfl, hno, hbw⟩ := hrel;have hsz := hbw.size;have hBr := hB2.trans (hbw.mono hB2.size);have hhr := hh2.below hbw hh2.lt;have q0 := hhr.cell 0;have q1 := hhr.cell 1;have q2 := hhr.cell 2;have q3 := hhr.cell 3;have q4 := hhr.cell 4;have q5 := hhr.cell 5;have q6 := hhr.cell 6;have hql := hhr.lt;simp at q0 q1 q2 q3 q4 q5 q6
    by_cases hlt : k < np
    ·have hkl : k < l.length := by have := HN.out.2.2.1.1; omega
     rcases HN.out.2.2.1.2.2.below hBr with h0 | ⟨g, o, rfl, hg, hc⟩
     ·rw [h0] at hkl; simp at hkl
     obtain ⟨e0, e1, e2⟩ := hc k hkl
     have HS : Q (zet D (l.take (k + 1)) = decide (0 ≤ zdi D l[k].2.1) ∧ (0 ≤ zdi D l[k].2.1 → zet D l = true)) := by
      refine ⟨by rw [zax hkl, zox, hno.out]; rfl, fun h => ?_⟩;unfold zet
      rw [List.any_eq_true];exact ⟨_, List.getElem_mem hkl, by simpa using h⟩
     clear hc hno;generalize l[k] = p at *;obtain ⟨ph, pk, pn⟩ := p;simp only at e0 e1 e2 HS
     have hbA := zi wr (T #[E J ph, E J pk, E J pn] 49);have hBA := hBr.trans (hbA.mono hBr.size);have hBm := hbw.trans (hbA.mono hsz);clear hhr hbw;go_wp2_with fail
     refine (zp5 la ra da nl lc nr rc nd dc s0 s1 s2 s3 pk XR D _ (HN.out.1.below hBA)).mono ?_;rintro e w3 ⟨rfl, hb3⟩;have hB3 := hBm.trans (hb3.mono hBm.size);have hB3w := hBA.trans (hb3.mono hBA.size);clear q0 q1 q2 q3 q4 q5 q6 hb3 hBA hbA e0 e1 e2 hBm;generalize zdi D pk = z at *;by_cases hzz : 0 ≤ z
     ·have HF : Q (zcv ((s0, s1, s2, s3), D, dn) d l = 12) := by
       show _ = _
       unfold zcv
       simp only
       rw [HZ1.out, if_neg (by simp), HZ2.out, if_neg (by simp), HS.out.2 hzz, if_pos rfl]
      clear HS;go_wp2;go_ret;exact ⟨zb9 HF.out.symm, hB3w⟩
     ·have HF : Q (zet D (l.take (k + 1)) = false) := by show _ = _; rw [HS.out.1]; simpa using hzz
      clear HS;go_wp2;go_roundw
      case rel => exact ⟨k + 1, by omega, by go_num, HF, hB3⟩
      case measure => simp [intOf]; omega
    ·have HF : Q (zcv ((s0, s1, s2, s3), D, dn) d l = zcp (s0, s1, s2, s3) l) := by
      show _ = _
      have := hno.out;rw [kae (by have := HN.out.2.2.1.1; omega)] at this;unfold zcv
      simp only
      rw [HZ1.out, if_neg (by simp), HZ2.out, if_neg (by simp), this, if_neg (by simp)]
     clear hno hhr;go_wp2_with fail
     refine (zql s0 s1 s2 s3 pa l pc np wr HN.out.2.2.1.1 HN.out.2.2.1.2.1.1 (HN.out.2.2.1.2.2.below hBr) HN.out.2.2.1.2.1.2.1 HN.out.2.2.1.2.1.2.2 HN.out.2.2.2).mono ?_;rintro e w3 ⟨rfl, hb3⟩;have hB3w := hBr.trans (hb3.mono hBr.size);clear q0 q1 q2 q3 q4 q5 q6 hb3;go_wp2;go_ret;exact ⟨zb9 HF.out.symm, hB3w⟩
  ·have HF : Q (zcv ((s0, s1, s2, s3), D, dn) d l = 0) := by
    show _ = _
    unfold zcv
    simp only
    rw [HZ1.out, if_neg (by simp), hz2, if_pos rfl]
   clear hz2;go_wp2;go_ret;exact ⟨zb9 HF.out.symm, hB2⟩
 ·have HF : Q (zcv ((s0, s1, s2, s3), D, dn) d l = 10) := by
   show _ = _
   unfold zcv
   simp only
   rw [hz1, if_pos rfl]
  clear hz1;go_wp2;go_ret;exact ⟨zb9 HF.out.symm, hB1⟩
def Out (R : Nat → Prop) (a : Option Addr) (n : Nat) : Prop := n = 0 ∨ ∀ ad, a = some ad → ¬ R ad.block
theorem Out.zero (R : Nat → Prop) (a : Option Addr) : Out R a 0 := kaa rfl
theorem Out.none (R : Nat → Prop) (n : Nat) : Out R U n := kab (fun _ h => by cases h)
def zae (R : Nat → Prop) (w : World) (a : Option Addr) (l : List P3) : Prop := zal w a l ∧ Out R a l.length
theorem zk.keepR {α : Type} {size : Nat} {enc : α → List Value} {w w' : World} {a : Option Addr} {xs : List α} {R : Nat → Prop} (h : zk size enc w a xs) (ho : Out R a xs.length) (hk : zg R w w') : zk size enc w' a xs := by
 rcases ho with h0 | ho
 ·exact kaa (List.eq_nil_of_length_eq_zero h0)
 ·exact h.keep hk ho
theorem zae.keep {R : Nat → Prop} {w w' : World} {a : Option Addr} {l : List P3} (h : zae R w a l) (hk : zg R w w') : zae R w' a l := by
 refine ⟨?_, h.2⟩;rcases h.1 with h0 | ⟨b, o, rfl, hlt, hc⟩
 ·exact kaa h0
 ·rcases h.2 with h0 | ho
  ·exact kaa (List.eq_nil_of_length_eq_zero h0)
  ·refine kab ⟨b, o, rfl, Nat.lt_of_lt_of_le hlt hk.size, fun i hi => ?_⟩
   obtain ⟨h1, h2, h3⟩ := hc i hi;have hb : ¬ R b := ho _ rfl;exact ⟨(hk.cell hlt hb).trans h1, (hk.cell hlt hb).trans h2, (hk.cell hlt hb).trans h3⟩
theorem zdg {R : Nat → Prop} {w w' : World} (hb : Z w.heap.size w w') : zg R w w' := zg.ofBelow hb (fun k h1 h2 => by omega)
theorem zae.below {R : Nat → Prop} {w w' : World} {a : Option Addr} {l : List P3} (h : zae R w a l) (hb : Z w.heap.size w w') : zae R w' a l := h.keep (zdg hb)
theorem zae.nil (R : Nat → Prop) (w : World) (a : Option Addr) : zae R w a [] := ⟨kaa rfl, kaa rfl⟩
theorem zk.out {α : Type} {size : Nat} {enc : α → List Value} {w : World} {a : Option Addr} {xs : List α} {R R' : Nat → Prop} (h : zk size enc w a xs) (ho : Out R a xs.length) (hR : ∀ b, R' b → R b ∨ w.heap.size ≤ b) : Out R' a xs.length := by
 rcases h with rfl | ⟨b, o, rfl, hlt, hc⟩
 ·exact kaa rfl
 ·rcases ho with h0 | ho
  ·exact kaa h0
  ·refine kab (fun ad had hr => ?_)
   cases had;rcases hR _ hr with h | h
   ·exact ho _ rfl h
   ·have h' : w.heap.size ≤ b := h
    omega
theorem zae.wide {R R' : Nat → Prop} {w : World} {a : Option Addr} {l : List P3} (h : zae R w a l) (hR : ∀ b, R' b → R b ∨ w.heap.size ≤ b) : zae R' w a l :=
 ⟨h.1, zk.out (zmr h.1) h.2 hR⟩
theorem zal.outR {w : World} {a : Option Addr} {l : List P3} (h : zal w a l) {R : Nat → Prop} (hR : ∀ b, R b → w.heap.size ≤ b) : zae R w a l :=
 zae.wide (R := fun _ => False) ⟨h, kab (fun _ _ h => h)⟩ (fun b hb => kab (hR b hb))
theorem zd.outR {α : Type} {e : TypeId} {size : Nat} {enc : α → List Value} {w : World} {base : Nat} {a : Option Addr} {n cap : Nat} {xs : List α} (h : zd e size enc w base (G a n cap) xs) {R : Nat → Prop} (hR : ∀ b, R b → b < base) (m : Nat) : Out R a m := by
 rcases h.2 with ⟨hv, h0⟩ | ⟨g, cap, cur, hv, hg, hh, jZ, hmx, hsz, qJ⟩
 ·cases hv; exact Out.none _ _
 ·cases hv
  refine kab (fun ad had hr => ?_);cases had;have h1 : g < base := hR _ hr;omega
structure zdm (R : Nat → Prop) (w : World) (la : Option Addr) (nl : Nat) (Y : List XL) (ra : Option Addr) (nr : Nat) (XR : List XD) (da : Option Addr) (nd : Nat) (L : List R3) (h : H3) : Prop where
 ln : nl = Y.length
 log : zk 3 zaj w la Y
 lout : Out R la Y.length
 says : Y.map zf = L
 parts : ∀ y ∈ Y, zae R w y.2.2.1.1 y.2.2.2
 rn : nr = XR.length
 rdy : zk 2 zc1 w ra XR
 rout : Out R ra XR.length
 rsays : XR.map zba = h.2.1
 rparts : ∀ x ∈ XR, zae R w x.2.1.1 x.2.2
 dn : nd = h.2.2.length
 done : zk 1 zv w da h.2.2
 dout : Out R da h.2.2.length
theorem zdm.keep {R : Nat → Prop} {w w' : World} {la : Option Addr} {nl : Nat} {Y : List XL} {ra : Option Addr} {nr : Nat} {XR : List XD} {da : Option Addr} {nd : Nat} {L : List R3} {h : H3} (H : zdm R w la nl Y ra nr XR da nd L h) (hk : zg R w w') : zdm R w' la nl Y ra nr XR da nd L h :=
 ⟨H.ln, H.log.keepR H.lout hk, H.lout, H.says, fun y hy => (H.parts y hy).keep hk, H.rn, H.rdy.keepR H.rout hk, H.rout, H.rsays, fun x hx => (H.rparts x hx).keep hk, H.dn, H.done.keepR H.dout hk, H.dout⟩
theorem zdm.below {R : Nat → Prop} {w w' : World} {la : Option Addr} {nl : Nat} {Y : List XL} {ra : Option Addr} {nr : Nat} {XR : List XD} {da : Option Addr} {nd : Nat} {L : List R3} {h : H3} (H : zdm R w la nl Y ra nr XR da nd L h) (hb : Z w.heap.size w w') : zdm R w' la nl Y ra nr XR da nd L h := H.keep (zdg hb)
theorem zdm.wide {R R' : Nat → Prop} {w : World} {la : Option Addr} {nl : Nat} {Y : List XL} {ra : Option Addr} {nr : Nat} {XR : List XD} {da : Option Addr} {nd : Nat} {L : List R3} {h : H3} (H : zdm R w la nl Y ra nr XR da nd L h) (hR : ∀ b, R' b → R b ∨ w.heap.size ≤ b) : zdm R' w la nl Y ra nr XR da nd L h :=
 ⟨H.ln, H.log, H.log.out H.lout hR, H.says, fun y hy => (H.parts y hy).wide hR, H.rn, H.rdy, H.rdy.out H.rout hR, H.rsays, fun x hx => (H.rparts x hx).wide hR, H.dn, H.done, H.done.out H.dout hR⟩
theorem zdm.rdyAt {R : Nat → Prop} {w : World} {la : Option Addr} {nl : Nat} {Y : List XL} {ra : Option Addr} {nr : Nat} {XR : List XD} {da : Option Addr} {nd : Nat} {L : List R3} {h : H3} (H : zdm R w la nl Y ra nr XR da nd L h) {k : Nat} (hi : zep k h) (hk : k ≤ 9223372036854775807) : ze9 w ra nr XR h.2.1 := by
 refine ⟨H.rn, ?_, ?_, ⟨H.rdy, fun x hx => (H.rparts x hx).1⟩, H.rsays⟩
 ·have h1 := hi.few
  rw [← H.rsays, List.length_map] at h1;omega
 ·intro x hx
  have h1 := (hi.ok (zba x) (by rw [← H.rsays]; exact List.mem_map.2 ⟨x, hx, rfl⟩)).1;have h2 : x.2.2.length ≤ 4 := h1;omega
def zbc (R : Nat → Prop) (w : World) (v : Value) (L : List R3) (h : H3) : Prop :=
 ∃ (la : Option Addr) (nl lc : Nat) (Y : List XL) (ra : Option Addr) (nr rc : Nat) (XR : List XD) (da : Option Addr) (nd dc : Nat),
  v = .agg #[G la nl lc, E J h.1.1, E J h.1.2.1, E J h.1.2.2.1, E J h.1.2.2.2, G ra nr rc, G da nd dc] ∧ zdm R w la nl Y ra nr XR da nd L h
theorem zbc.keep {R : Nat → Prop} {w w' : World} {v : Value} {L : List R3} {h : H3} (H : zbc R w v L h) (hk : zg R w w') : zbc R w' v L h := by
 obtain ⟨la, nl, lc, Y, ra, nr, rc, XR, da, nd, dc, hv, hf⟩ := H;exact ⟨la, nl, lc, Y, ra, nr, rc, XR, da, nd, dc, hv, hf.keep hk⟩
theorem zbc.below {R : Nat → Prop} {w w' : World} {v : Value} {L : List R3} {h : H3} (H : zbc R w v L h) (hb : Z w.heap.size w w') : zbc R w' v L h := H.keep (zdg hb)
theorem zbc.wide {R R' : Nat → Prop} {w : World} {v : Value} {L : List R3} {h : H3} (H : zbc R w v L h) (hR : ∀ b, R' b → R b ∨ w.heap.size ≤ b) : zbc R' w v L h := by
 obtain ⟨la, nl, lc, Y, ra, nr, rc, XR, da, nd, dc, hv, hf⟩ := H;exact ⟨la, nl, lc, Y, ra, nr, rc, XR, da, nd, dc, hv, hf.wide hR⟩
theorem zqd (R : Nat → Prop) (w : World) : zbc R w (.agg #[G U 0 0, E J 0, E J 0, E J 0, E J 0, G U 0 0, G U 0 0]) [] ((0, 0, 0, 0), [], []) :=
 ⟨none, 0, 0, [], none, 0, 0, [], none, 0, 0, rfl, rfl, kaa rfl, kaa rfl, rfl, (fun y hy => by cases hy), rfl, kaa rfl, kaa rfl, rfl, (fun y hy => by cases hy), rfl, kaa rfl, kaa rfl⟩
theorem znw (R : Nat → Prop) (a : Option Addr) (X : List XL) (cap n : Nat) (w : World) (hR : ∀ b, R b → b < w.heap.size) (hn : n = X.length) (hc : zc9 (X.map zf)) (jX : zk 3 zaj w a X) (hout : Out R a X.length) (hp : ∀ x ∈ X, zae R w x.2.2.1.1 x.2.2.2) :
  Calls Try.prog 82 #[G a n cap] w fun e w' => ∃ (h : H3) (ra : Option Addr) (nr rc : Nat) (XR : List XD) (da : Option Addr) (nd dc : Nat), h = ze (X.map zf) ∧
   e = .returned (.agg #[G a n cap, E J h.1.1, E J h.1.2.1, E J h.1.2.2.1, E J h.1.2.2.2, G ra nr rc, G da nd dc]) ∧ zdm R w' a n X ra nr XR da nd (X.map zf) h ∧ Z w.heap.size w w' := by
 refine (zoa (zae R w) a X cap n w hn hc ⟨jX, fun x hx => (hp x hx).1⟩ (fun _ _ h => h.1) hp).mono ?_;rintro e w' ⟨v, rfl, ⟨ra, nr, rc, XR, da, nd, dc, rfl, h1, h2, h3, h4⟩, hb⟩;have k1 := h1.at zdz;have k4 := h4.at zai;exact ⟨_, ra, nr, rc, XR, da, nd, dc, rfl, rfl, ⟨hn, jX.below hb, hout, rfl, fun x hx => (hp x hx).below hb, k1.2.1, k1.1, h1.outR hR _, h3, fun x hx => (h2 x hx).below hb, k4.2.1, k4.1, h4.outR hR _⟩, hb⟩
end Go.Proofs.Ytpcnlifmkhagkaa
