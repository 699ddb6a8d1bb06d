import Derived.Test.YtpcnlifmkhagkaaGreatProg
import Derived.WalkKit
import Derived.WalkSpells
import Derived.WalkLawsBesides
import Derived.BigQuiet
import Derived.Deep.RegionHeld3
import Derived.Deep.DrawnRows
import Derived.Deep.AppendLies
import Derived.WalkSmall
import Derived.Deep.AppendSrc
import Derived.Laws.Rows
import Derived.Laws.OwnMore
import Derived.Deep.Onto
import Derived.OneCell
import Derived.Lib.SliceRun
import Derived.Deep.RegionWith
import Derived.Deep.DeepCutAuto
import Derived.OwnWalk
set_option maxRecDepth 20000
set_option maxHeartbeats 20000000
namespace Go.Proofs.YtpcnlifmkhagkaaGreat
open Go.RowKit
open Go.Value renaming slice → G, int → E
open Go.IntKind renaming i64 → J
open _root_.Option renaming none → U
open Go.Obj renaming cells → T
open Go.RowKit renaming Hid → Q, Below → Z
open Go.World renaming setCell → r
open _root_.Nat renaming le_refl → kaa, lt_or_ge → kab, lt_of_lt_of_le → kaf
open Go.Value renaming ownBlock → kac
open _root_.List renaming eq_nil_of_length_eq_zero → kad, getElem_mem → kae, set_cons_succ → kag, getElem?_append_right → kah, getElem?_eq_none → kaj
open _root_.Array renaming getElem?_eq_none → kai
attribute [local go_sem ↓] Go.wp_at_zero Go.wp_at_succ
abbrev P3 := Int × Int × Int
abbrev S4 := Int × Int × Int × Int
def zb4 (k : Int) : Bool := decide (0 ≤ k ∧ k < 4)
def inB (p : P3) (H : Int) : Bool := decide (0 ≤ p.1 ∧ p.1 < H ∧ 0 ≤ p.2.1 ∧ p.2.1 < 4 ∧ -1048576 ≤ p.2.2 ∧ p.2.2 ≤ 1048576)
def zex (p q : P3) : Bool := decide (p.1 = q.1 ∧ p.2.1 = q.2.1)
def hasB (q : P3) (l : List P3) : Bool := l.any fun p => zex p q
def zds (H : Int) : List P3 → List P3 → Int
 | _, [] => 0
 | seen, p :: t => if inB p H then (if hasB p seen then 4 else zds H (seen ++ [p]) t) else 3
def zax (l : List P3) (H : Int) : Int := if l.length < 1 ∨ 4 < l.length then 5 else zds H [] l
def za8 (s : S4) (k : Int) : Int := if k = 0 then s.1 else if k = 1 then s.2.1 else if k = 2 then s.2.2.1 else s.2.2.2
def zdp (s : S4) (k n : Int) : S4 :=
 if k = 0 then (s.1 + n, s.2.1, s.2.2.1, s.2.2.2) else if k = 1 then (s.1, s.2.1 + n, s.2.2.1, s.2.2.2)
 else if k = 2 then (s.1, s.2.1, s.2.2.1 + n, s.2.2.2) else (s.1, s.2.1, s.2.2.1, s.2.2.2 + n)
def do1 (s : S4) (p : P3) : S4 := if zb4 p.2.1 then zdp s p.2.1 p.2.2 else s
def doB (s : S4) (l : List P3) : S4 := l.foldl do1 s
def zco (s : S4) : List P3 → Int
 | [] => 0
 | p :: t => if zb4 p.2.1 then (if za8 s p.2.1 + p.2.2 < 0 then 11 else if 1048576 < za8 s p.2.1 + p.2.2 then 4 else zco s t) else zco s t
def zfx (s : S4) : Bool := decide ((0 ≤ s.1 ∧ s.1 ≤ 1048576) ∧ (0 ≤ s.2.1 ∧ s.2.1 ≤ 1048576) ∧ (0 ≤ s.2.2.1 ∧ s.2.2.1 ≤ 1048576) ∧ (0 ≤ s.2.2.2 ∧ s.2.2.2 ≤ 1048576))
def zbj (B : Int) (s : S4) : Prop := (-B ≤ s.1 ∧ s.1 ≤ B) ∧ (-B ≤ s.2.1 ∧ s.2.1 ≤ B) ∧ (-B ≤ s.2.2.1 ∧ s.2.2.1 ≤ B) ∧ (-B ≤ s.2.2.2 ∧ s.2.2.2 ≤ B)
def zdz (l : List P3) : Prop := ∀ p ∈ l, -1048576 ≤ p.2.2 ∧ p.2.2 ≤ 1048576
theorem zkd {l : List P3} {k : Nat} (h : k < l.length) : l.drop k = l[k] :: l.drop (k + 1) := List.drop_eq_getElem_cons h
theorem zav {α : Type} {l : List α} {k : Nat} (h : k < l.length) : l.take (k + 1) = l.take k ++ [l[k]] := List.take_succ_eq_append_getElem h
theorem zmi (q : P3) (l : List P3) (p : P3) : hasB q (l ++ [p]) = (hasB q l || zex p q) := by simp [hasB]
theorem zhz (s : S4) (l : List P3) (p : P3) : doB s (l ++ [p]) = do1 (doB s l) p := by simp [doB]
theorem znp {B : Int} {s : S4} (h : zbj B s) {p : P3} (hp : -1048576 ≤ p.2.2 ∧ p.2.2 ≤ 1048576) : zbj (B + 1048576) (do1 s p) := by
 obtain ⟨⟨a1, a2⟩, ⟨b1, b2⟩, ⟨c1, c2⟩, ⟨d1, d2⟩⟩ := h;obtain ⟨p1, p2⟩ := hp;unfold do1 zdp
 repeat' split
 all_goals (refine ⟨⟨?_, ?_⟩, ⟨?_, ?_⟩, ⟨?_, ?_⟩, ⟨?_, ?_⟩⟩ <;> (try simp only) <;> omega)
theorem zgx {B C : Int} {s : S4} (h : zbj B s) (hc : B ≤ C) : zbj C s := by
 obtain ⟨⟨a1, a2⟩, ⟨b1, b2⟩, ⟨c1, c2⟩, ⟨d1, d2⟩⟩ := h;exact ⟨⟨by omega, by omega⟩, ⟨by omega, by omega⟩, ⟨by omega, by omega⟩, ⟨by omega, by omega⟩⟩
theorem zi4 {B : Int} {s : S4} (h : zbj B s) : ∀ {l : List P3}, zdz l → zbj (B + l.length * 1048576) (doB s l) := by
 intro l
 induction l generalizing s B with
 | nil => intro _; simpa [doB] using h
 | cons p t ih =>
  intro hs;have h1 := znp h (hs p (by simp));have h2 := ih h1 (fun q hq => hs q (by simp [hq]));exact zgx h2 (by simp only [List.length_cons]; omega)
theorem zot {l : List P3} (h : zdz l) (k : Nat) : zdz (l.take k) := fun p hp => h p (List.mem_of_mem_take hp)
theorem zhf {l : List P3} (h : zdz l) {k : Nat} (hk : k < l.length) : -1048576 ≤ l[k].2.2 ∧ l[k].2.2 ≤ 1048576 := h _ (kae hk)
theorem fits_step {s : S4} {l : List P3} {k : Nat} (h : k < l.length) : zco s (l.drop k) = if zb4 l[k].2.1 then (if za8 s l[k].2.1 + l[k].2.2 < 0 then 11 else if 1048576 < za8 s l[k].2.1 + l[k].2.2 then 4 else zco s (l.drop (k + 1))) else zco s (l.drop (k + 1)) := by
 rw [zkd h]; simp only [zco]
theorem zn1 {H : Int} {l : List P3} {k : Nat} (h : k < l.length) : zds H (l.take k) (l.drop k) = if inB l[k] H then (if hasB l[k] (l.take k) then 4 else zds H (l.take (k + 1)) (l.drop (k + 1))) else 3 := by
 rw [zkd h]; simp only [zds]; rw [zav h]
theorem zfw {a b : Bool} (h : a = b) : Ending.returned (.bool a) = .returned (.bool b) := by rw [h]
theorem zca {k : IntKind} {a b : Int} (h : a = b) : Ending.returned (E k a) = .returned (E k b) := by rw [h]
theorem zA {a : Prop} (x : a) : Q a := x
theorem zB {a b : Prop} (x0 : a) (x1 : b) : Q (a ∧ b) := ⟨x0, x1⟩
theorem zC {a b c : Prop} (x0 : a) (x1 : b) (x2 : c) : Q (a ∧ b ∧ c) := ⟨x0, x1, x2⟩
theorem zD {a b c d : Prop} (x0 : a) (x1 : b) (x2 : c) (x3 : d) : Q (a ∧ b ∧ c ∧ d) := ⟨x0, x1, x2, x3⟩
theorem zE {a b c d e : Prop} (x0 : a) (x1 : b) (x2 : c) (x3 : d) (x4 : e) : Q (a ∧ b ∧ c ∧ d ∧ e) := ⟨x0, x1, x2, x3, x4⟩
theorem zF {a b c d e f : Prop} (x0 : a) (x1 : b) (x2 : c) (x3 : d) (x4 : e) (x5 : f) : Q (a ∧ b ∧ c ∧ d ∧ e ∧ f) := ⟨x0, x1, x2, x3, x4, x5⟩
theorem zG {a b c d e f g : Prop} (x0 : a) (x1 : b) (x2 : c) (x3 : d) (x4 : e) (x5 : f) (x6 : g) : Q (a ∧ b ∧ c ∧ d ∧ e ∧ f ∧ g) := ⟨x0, x1, x2, x3, x4, x5, x6⟩
theorem zH {a b c d e f g h : Prop} (x0 : a) (x1 : b) (x2 : c) (x3 : d) (x4 : e) (x5 : f) (x6 : g) (x7 : h) : Q (a ∧ b ∧ c ∧ d ∧ e ∧ f ∧ g ∧ h) := ⟨x0, x1, x2, x3, x4, x5, x6, x7⟩
theorem zh (w : World) (o : Obj) : Z w.heap.size w (w.alloc o) := (Below.refl _ _).alloc (kaa _) _
theorem zaw (w : World) (o o' : Obj) : Z w.heap.size w ((w.alloc o).alloc o') := ((Below.refl _ _).alloc (kaa _) _).alloc (by simp) _
theorem zc0 {W w1 : World} (hb : Z W.heap.size W w1) : (∀ b o, b < W.heap.size → w1.cell? ⟨b, o, U⟩ = W.cell? ⟨b, o, U⟩) ∧ (∀ b o, b < W.heap.size → w1.frozen? ⟨b, o, U⟩ = W.frozen? ⟨b, o, U⟩) :=
 ⟨fun b o h => hb.cell (p := ⟨b, o, U⟩) h, fun b o h => hb.frozen (p := ⟨b, o, U⟩) h⟩
def zae (w : World) (a : Option Addr) (l : List P3) : Prop :=
 l = [] ∨ ∃ b o, a = some ⟨b, o, U⟩ ∧ b < w.heap.size ∧ ∀ i (h : i < l.length),
  w.cell? ⟨b, o + i * 3, U⟩ = some (E J l[i].1) ∧ w.cell? ⟨b, o + i * 3 + 1, U⟩ = some (E J l[i].2.1) ∧ w.cell? ⟨b, o + i * 3 + 2, U⟩ = some (E J l[i].2.2)
theorem zae.below {w w' : World} {a : Option Addr} {l : List P3} (h : zae w a l) (hb : Z w.heap.size w w') : zae w' a l := by
 rcases h with rfl | ⟨b, o, rfl, hlt, hc⟩
 ·exact Or.inl rfl
 ·refine Or.inr ⟨b, o, rfl, kaf hlt hb.size, fun i hi => ?_⟩
  obtain ⟨h1, h2, h3⟩ := hc i hi;obtain ⟨hcc, _⟩ := zc0 hb;exact ⟨(hcc _ _ hlt).trans h1, (hcc _ _ hlt).trans h2, (hcc _ _ hlt).trans h3⟩
def zd4 (l : List P3) : List Value := l.flatMap fun p => [E J p.1, E J p.2.1, E J p.2.2]
theorem zqu (l : List P3) (p : P3) : zd4 (l ++ [p]) = zd4 l ++ [E J p.1, E J p.2.1, E J p.2.2] := by simp [zd4]
theorem zj6 : ∀ (l : List P3) (i : Nat) (h : i < l.length), (zd4 l)[i * 3]? = some (E J l[i].1) ∧ (zd4 l)[i * 3 + 1]? = some (E J l[i].2.1) ∧ (zd4 l)[i * 3 + 2]? = some (E J l[i].2.2)
 | p :: t, 0, _ => by simp [zd4]
 | p :: t, i + 1, h => by
  have ih := zj6 t i (by simpa using h);have e : zd4 (p :: t) = [E J p.1, E J p.2.1, E J p.2.2] ++ zd4 t := by simp [zd4]
  rw [e];refine ⟨?_, ?_, ?_⟩
  ·rw [kah (by simp; omega)]; simpa [show (i + 1) * 3 - 3 = i * 3 by omega] using ih.1
  ·rw [kah (by simp; omega)]; simpa [show (i + 1) * 3 + 1 - 3 = i * 3 + 1 by omega] using ih.2.1
  ·rw [kah (by simp; omega)]; simpa [show (i + 1) * 3 + 2 - 3 = i * 3 + 2 by omega] using ih.2.2
def zbw (w : World) (base : Nat) (v : Value) (l : List P3) : Prop := w.ownsRow base 90 3 v l.length (zd4 l)
theorem zhl {w w' : World} {base : Nat} {e : TypeId} {size : Nat} {v : Value} {n : Nat} {xs : List Value} (h : w.ownsRow base e size v n xs) {B : Nat} (hb : Z B w w') (hB : w.heap.size ≤ B) : w'.ownsRow base e size v n xs := by
 refine ⟨h.1, ?_⟩;rcases h.2 with h0 | ⟨g, cap, cur, hv, hg, hh, jj⟩
 ·exact Or.inl h0
 ·refine Or.inr ⟨g, cap, cur, hv, hg, ?_, jj⟩
  have hlt : g < w.heap.size := by
   rcases kab g w.heap.size with h' | h'
   ·exact h'
   ·rw [kai h'] at hh; cases hh
  rw [hb.block g (by omega)]; exact hh
theorem zbw.below {w w' : World} {base : Nat} {v : Value} {l : List P3} (h : zbw w base v l) {B : Nat} (hb : Z B w w') (hB : w.heap.size ≤ B) : zbw w' base v l := zhl h hb hB
theorem zbw.parts {w : World} {base : Nat} {v : Value} {l : List P3} (h : zbw w base v l) : ∃ a cap, v = G a l.length cap ∧ zae w a l ∧ l.length ≤ cap := by
 rcases h.2 with ⟨hv, h0⟩ | ⟨g, cap, cur, hv, hg, hh, hcap, _, hsz, htake⟩
 ·exact ⟨U, 0, by rw [hv, h0], Or.inl (kad h0), by omega⟩
 ·refine ⟨_, cap, hv, Or.inr ⟨g, 0, rfl, ?_, fun i hi => ?_⟩, hcap⟩
  ·rcases kab g w.heap.size with h' | h'
   ·exact h'
   ·rw [kai h'] at hh; cases hh
  ·have key : ∀ j u, (zd4 l)[j]? = some u → w.cell? ⟨g, j, U⟩ = some u := by
    intro j u hj;rw [cell_of_row w g j cur _ _ hh];rw [← htake] at hj
    have hlt : j < l.length * 3 := by
     rcases kab j (l.length * 3) with h' | h'
     ·exact h'
     ·rw [kaj (by simp; omega)] at hj; cases hj
    rw [List.getElem?_take_of_lt hlt] at hj
    simpa using hj
   obtain ⟨e0, e1, e2⟩ := zj6 l i hi;rw [Nat.zero_add];exact ⟨key _ _ e0, key _ _ e1, key _ _ e2⟩
theorem zif : (Tryz.prog.info? 90).map (fun i => (i.zero, i.size, i.bytes)) = some (some (.agg #[E J 0, E J 0, E J 0]), 3, 24) := by kernel_rfl
theorem zkg {ops : Array Oper} {rest : List Oper} {o : Oper} {a : Act} {zZ : Exit → Act → World → Prop} (w : World) (hgd : o.guard = U) (s x : Operand)
  (ho : o.op = .call { callee := .builtin .append, args := #[s, x], argTypes := #[23, 23] })
  (base : Nat) (v : Value) (l : List P3) (hs : a.eval s = v) (hown : zbw w base v l) (B : Nat) (p : P3) (hx : a.eval x = G (some ⟨B, 0, U⟩) 1 1)
  (hB : w.heap[B]? = some (T #[E J p.1, E J p.2.1, E J p.2.2] 90)) (hl : l.length ≤ 1000000) (hbase : base ≤ w.heap.size)
  (h : ∀ g cap w', zbw w' base (G (some ⟨g, 0, U⟩) (l.length + 1) cap) (l ++ [p]) → w.grownBy w' v.ownBlock → (v.ownBlock = some g ∨ g = w.heap.size) → g < w'.heap.size → wpList Tryz.prog ops zZ rest (a.put o.dst (G (some ⟨g, 0, U⟩) (l.length + 1) cap)) w') : wpList Tryz.prog ops zZ (o :: rest) a w := by
 obtain ⟨i0, hi, hz0, hz1, hz2⟩ := info_parts zif;refine wpList_append_lies w hgd s x 23 ho base 90 i0 _ 3 24 Tryz.underlying23 hi hz0 hz1 hz2 rfl (by decide) v l.length (zd4 l) hs hown ⟨B, 0, U⟩ 1 1 [E J p.1, E J p.2.1, E J p.2.2] hx rfl (World.news_of_block hB) ?_ (by decide) (by unfold maxLen; omega) (by omega) hbase w.heap.size rfl ?_
 ·intro u hu
  simp at hu
  rcases hu with rfl | rfl | rfl <;> rfl
 ·intro g cap w' h1 h2 h3 h4
  refine h g cap w' ?_ h2 h3 h4;unfold zbw
  rw [zqu]
  simpa using h1
theorem zao (w : World) (o o' : Obj) : ((w.alloc o).alloc o').heap[w.heap.size + 1]? = some o' := by have := heap_alloc_new (w.alloc o) o'; simpa using this
theorem zo0 (w : World) (b o : Nat) : w.setCells b o [] = w := rfl
def SrcAt (w : World) (a : Option Addr) (m size : Nat) (news : List Value) : Prop :=
 news.length = m * size ∧ (m = 0 ∨ ∃ ad, a = some ad ∧ ∀ j u, news[j]? = some u → w.cell? (ad.add j) = some u)
theorem zi1 {P : Program} (w : World) (base : Nat) (t ty e : TypeId) (i : TypeInfo) (z : Value) (size bytes : Nat) (ht : P.underlying t = some (.slice e)) (hi : P.info? e = some i) (hz : i.zero = some z)
  (hsize : i.size = size) (hby : i.bytes = bytes) (hzs : z.cells.size = size) (hsz : 0 < size)
  (v : Value) (n : Nat) (xs : List Value) (hown : w.ownsRow base e size v n xs)
  (a : Option Addr) (m c : Nat) (news : List Value) (hsrc : SrcAt w a m size news) (h1 : ∀ u ∈ news, u.oneCell' = true)
  (h63 : n + m ≤ maxLen) (hbytes : (n + m) * bytes ≤ 140737488355328) (hbase : base ≤ w.heap.size) :
  ∃ v' w', (Builtin.append_ #[t, t] ty #[v, G a m c]).run P w = .ok v' w' ∧ w'.ownsRow base e size v' (n + m) (xs ++ news) ∧ w.grownBy w' v.ownBlock ∧
   (v'.ownBlock = v.ownBlock ∨ v'.ownBlock = some w.heap.size) := by
 obtain ⟨hl, hs⟩ := hsrc;rcases hs with h0 | ⟨ad, ha, hc⟩
 ·subst h0
  have hn := kad (by simpa using hl);subst hn
  cases a with
  | some ad =>
   obtain ⟨v', w', hr, h2, h3, _, h5⟩ := run_append_own_at (P := P) w base t ty e i z size bytes ht hi hz hsize hby hzs hsz v n xs hown ad 0 c [] (by simp) (fun j u hj => by simp at hj) h1 h63 hbytes hbase;exact ⟨v', w', hr, h2, h3, h5⟩
  | none =>
   have hg : w.grownBy w v.ownBlock := ⟨rfl, rfl, rfl, kaa _, fun _ _ _ => rfl⟩;refine ⟨v, w, ?_, by simpa using hown, hg, .inl rfl⟩;rcases hown.2 with ⟨hv, _⟩ | ⟨g, cap, cur, hv, _, _, hcap, _⟩
   ·subst hv
    simp [Builtin.append_, run_underlying ht, sizeOf, typeInfo, hi, Builtin.lenOf, go_sem]
   ·subst hv
    have := run_append_room_src (P := P) w t t ty e i ht hi g 0 n cap (G U 0 c) 0 [] (Src.ofNil w ht c) (by omega) (fun j hj => by simp at hj) (fun j hj => by simp at hj);rw [zo0, Nat.add_zero] at this;exact this
 ·subst ha
  obtain ⟨v', w', hr, h2, h3, _, h5⟩ := run_append_own_at (P := P) w base t ty e i z size bytes ht hi hz hsize hby hzs hsz v n xs hown ad m c news hl hc h1 h63 hbytes hbase;exact ⟨v', w', hr, h2, h3, h5⟩
theorem zp3 {P : Program} {ops : Array Oper} {rest : List Oper} {o : Oper} {a : Act} {zZ : Exit → Act → World → Prop} (w : World) (hgd : o.guard = U) (s x : Operand) (t : TypeId)
  (ho : o.op = .call { callee := .builtin .append, args := #[s, x], argTypes := #[t, t] })
  (base : Nat) (e : TypeId) (i : TypeInfo) (z : Value) (size bytes : Nat) (ht : P.underlying t = some (.slice e)) (hi : P.info? e = some i) (hz : i.zero = some z)
  (hsize : i.size = size) (hby : i.bytes = bytes) (hzs : z.cells.size = size) (hsz : 0 < size)
  (v : Value) (n : Nat) (xs : List Value) (hs : a.eval s = v) (hown : w.ownsRow base e size v n xs)
  (ad : Option Addr) (m c : Nat) (news : List Value) (hx : a.eval x = G ad m c) (hsrc : SrcAt w ad m size news) (h1 : ∀ u ∈ news, u.oneCell' = true)
  (h63 : n + m ≤ maxLen) (hbytes : (n + m) * bytes ≤ 140737488355328) (hbase : base ≤ w.heap.size)
  (h : ∀ v' w', w'.ownsRow base e size v' (n + m) (xs ++ news) → w.grownBy w' v.ownBlock → (v'.ownBlock = v.ownBlock ∨ v'.ownBlock = some w.heap.size) → wpList P ops zZ rest (a.put o.dst v') w') :
  wpList P ops zZ (o :: rest) a w := by
 refine wpList_plain hgd fun K hK => ?_
 obtain ⟨v', w', hr, h2, h3, h5⟩ := zi1 (P := P) w base t o.type e i z size bytes ht hi hz hsize hby hzs hsz v n xs hown ad m c news hsrc h1 h63 hbytes hbase;unfold Oper.wp execOp
 simp only [ho, resolve, invoke, builtin, Sem.run_bind, Sem.run_pure, Result.andThen_ok, List.map_toArray, List.map_cons, List.map_nil, hs, hx, hr]
 exact hK _ _ (h v' w' h2 h3 h5)
def Blk (w : World) (b : Nat) (cs : Array Value) (t : TypeId) : Prop := w.heap[b]? = some (T cs t (0, 0))
def zf (R : Nat → Prop) (w w' : World) : Prop :=
 w'.os = w.os ∧ w'.tape = w.tape ∧ w'.output = w.output ∧ w.heap.size ≤ w'.heap.size ∧ ∀ k, k < w.heap.size → ¬ R k → w'.heap[k]? = w.heap[k]?
theorem Blk.lt {w : World} {b : Nat} {cs : Array Value} {t : TypeId} (h : Blk w b cs t) : b < w.heap.size := by
 rcases kab b w.heap.size with h' | h'
 ·exact h'
 ·unfold Blk at h; rw [kai h'] at h; cases h
theorem Blk.cell {w : World} {b : Nat} {cs : Array Value} {t : TypeId} (h : Blk w b cs t) (i : Nat) : w.cell? ⟨b, i, U⟩ = cs[i]? := cell_of_row w b i cs t _ h
theorem Blk.free {w : World} {b : Nat} {cs : Array Value} {t : TypeId} (h : Blk w b cs t) (i : Nat) : w.frozen? ⟨b, i, U⟩ = false := frozen_of_row w b i cs t h
theorem Blk.set {w : World} {b : Nat} {cs : Array Value} {t : TypeId} (h : Blk w b cs t) (i : Nat) (v : Value) : Blk (r w ⟨b, i, U⟩ v) b (cs.setIfInBounds i v) t := heap_setCell_same w b i cs t v h
theorem Blk.setOther {w : World} {b : Nat} {cs : Array Value} {t : TypeId} (h : Blk w b cs t) {a : Addr} (hne : b ≠ a.block) (v : Value) : Blk (r w a v) b cs t := by
 unfold Blk; rw [heap_setCell_other w a b v hne]; exact h
theorem Blk.new (w : World) (cs : Array Value) (t : TypeId) : Blk (w.alloc (T cs t)) w.heap.size cs t := heap_alloc_new w _
theorem Blk.alloc {w : World} {b : Nat} {cs : Array Value} {t : TypeId} (h : Blk w b cs t) (o : Obj) : Blk (w.alloc o) b cs t := by
 unfold Blk; rw [Below.heap_alloc w o b h.lt]; exact h
theorem Blk.below {w w' : World} {b : Nat} {cs : Array Value} {t : TypeId} (h : Blk w b cs t) {B : Nat} (hb : Z B w w') (hB : b < B) : Blk w' b cs t := by
 unfold Blk; rw [hb.block b hB]; exact h
theorem Blk.keep {w w' : World} {b : Nat} {cs : Array Value} {t : TypeId} (h : Blk w b cs t) {R : Nat → Prop} (hk : zf R w w') (hR : ¬ R b) : Blk w' b cs t := by
 unfold Blk; rw [hk.2.2.2.2 b h.lt hR]; exact h
theorem zf.refl (R : Nat → Prop) (w : World) : zf R w w := ⟨rfl, rfl, rfl, kaa _, fun _ _ _ => rfl⟩
theorem zf.size {R : Nat → Prop} {w w' : World} (h : zf R w w') : w.heap.size ≤ w'.heap.size := h.2.2.2.1
theorem zf.block {R : Nat → Prop} {w w' : World} (h : zf R w w') {k : Nat} (hk : k < w.heap.size) (hR : ¬ R k) : w'.heap[k]? = w.heap[k]? := h.2.2.2.2 k hk hR
theorem zf.trans {R : Nat → Prop} {a b c : World} (h : zf R a b) (k : zf R b c) : zf R a c :=
 ⟨k.1.trans h.1, k.2.1.trans h.2.1, k.2.2.1.trans h.2.2.1, Nat.le_trans h.size k.size, fun _ hi hR => (k.block (kaf hi h.size) hR).trans (h.block hi hR)⟩
theorem zf.mono {R S : Nat → Prop} {w w' : World} (h : zf R w w') (hs : ∀ k, k < w.heap.size → R k → S k) : zf S w w' :=
 ⟨h.1, h.2.1, h.2.2.1, h.size, fun k hk hS => h.block hk fun hR => hS (hs k hk hR)⟩
theorem zf.setCell {R : Nat → Prop} {w w' : World} (h : zf R w w') {p : Addr} (hp : R p.block) (u : Value) : zf R w (r w' p u) :=
 h.trans ⟨rfl, rfl, rfl, by simp [World.setCell], fun _ _ hR => heap_setCell_other _ _ _ _ fun e => hR (e ▸ hp)⟩
theorem zf.alloc {R : Nat → Prop} {w w' : World} (h : zf R w w') (o : Obj) : zf R w (w'.alloc o) :=
 h.trans ⟨rfl, rfl, rfl, by simp, fun _ hk _ => Below.heap_alloc _ _ _ hk⟩
theorem zf.drew {R : Nat → Prop} {w w' : World} (h : zf R w w') : zf R w w'.drew := h
theorem zf.ofBelow {R : Nat → Prop} {B : Nat} {w w' : World} (h : Z B w w') (hR : ∀ k, k < w.heap.size → B ≤ k → R k) : zf R w w' :=
 ⟨h.os, h.tape, h.output, h.size, fun k hk hr => h.block k (by rcases kab k B with x | x; exact x; exact absurd (hR k hk x) hr)⟩
theorem zf.below {R : Nat → Prop} {B : Nat} {w w' : World} (h : zf R w w') (hB : B ≤ w.heap.size) (hR : ∀ k, R k → B ≤ k) : Z B w w' :=
 ⟨h.1, h.2.1, h.2.2.1, h.size, fun k hk => h.block (kaf hk hB) fun hr => by have := hR k hr; omega⟩
theorem zf.ofGrown {R : Nat → Prop} {w w' : World} {row : Option Nat} (h : w.grownBy w' row) (hR : ∀ k, row = some k → R k) : zf R w w' :=
 ⟨h.os, h.tape, h.output, h.size, fun k hk hr => h.block k hk fun e => hr (hR k e.symm)⟩
theorem zf.cell {R : Nat → Prop} {w w' : World} (h : zf R w w') {b o : Nat} (hb : b < w.heap.size) (hR : ¬ R b) : w'.cell? ⟨b, o, U⟩ = w.cell? ⟨b, o, U⟩ := by
 have := h.block hb hR;unfold World.cell?
 simp only [this]
section
variable {α : Type}
def zx (enc : α → List Value) (xs : List α) : List Value := xs.flatMap enc
theorem zfd (enc : α → List Value) (xs ys : List α) : zx enc (xs ++ ys) = zx enc xs ++ zx enc ys := by simp [zx]
theorem zdh {enc : α → List Value} {size : Nat} (he : ∀ x, (enc x).length = size) (xs : List α) : (zx enc xs).length = xs.length * size := by
 induction xs with
 | nil => simp [zx]
 | cons p t ih =>
  have e : zx enc (p :: t) = enc p ++ zx enc t := by simp [zx]
  rw [e, List.length_append, ih, he, List.length_cons, Nat.add_mul, Nat.one_mul, Nat.add_comm]
theorem zg4 {enc : α → List Value} {size : Nat} (he : ∀ x, (enc x).length = size) : ∀ (xs : List α) (i : Nat) (h : i < xs.length) (j : Nat), j < size → (zx enc xs)[i * size + j]? = (enc xs[i])[j]?
 | p :: t, 0, _, j, hj => by
  have e : zx enc (p :: t) = enc p ++ zx enc t := by simp [zx]
  rw [e, Nat.zero_mul, Nat.zero_add, List.getElem?_append_left (by rw [he]; exact hj)]; rfl
 | p :: t, i + 1, h, j, hj => by
  have ih := zg4 he t i (by simpa using h) j hj;have e : zx enc (p :: t) = enc p ++ zx enc t := by simp [zx]
  rw [e, kah (by rw [he, Nat.add_mul]; omega), he];rw [show (i + 1) * size + j - size = i * size + j by rw [Nat.add_mul]; omega, ih];rfl
theorem zhk {enc : α → List Value} (h1 : ∀ x, ∀ u ∈ enc x, u.oneCell' = true) (xs : List α) : ∀ u ∈ zx enc xs, u.oneCell' = true := by
 intro u hu;simp only [zx, List.mem_flatMap] at hu
 obtain ⟨p, _, hp⟩ := hu;exact h1 p u hp
theorem zln {enc : α → List Value} (he : ∀ x, (enc x).length = 2) : ∀ (xs : List α) (i : Nat) (_ : i < xs.length) (x : α) (u0 u1 : Value), enc x = [u0, u1] → ((zx enc xs).set (i * 2) u0).set (i * 2 + 1) u1 = zx enc (xs.set i x)
 | p :: t, 0, _, x, u0, u1, hx => by
  have h2 := he p
  match hp : enc p, h2 with
  | [a, b], _ => simp [zx, hp, hx]
 | p :: t, i + 1, h, x, u0, u1, hx => by
  have ih := zln he t i (by simpa using h) x u0 u1 hx;have h2 := he p
  match hp : enc p, h2 with
  | [a, b], _ =>
   have e : ∀ S : List α, zx enc (p :: S) = a :: b :: zx enc S := by intro S; simp [zx, hp]
   rw [kag, e, e, show (i + 1) * 2 = i * 2 + 1 + 1 by omega];simp only [kag]
   rw [ih]
theorem zml {enc : α → List Value} (he : ∀ x, (enc x).length = 4) : ∀ (xs : List α) (i : Nat) (_ : i < xs.length) (x : α) (u0 u1 u2 u3 : Value), enc x = [u0, u1, u2, u3] → ((((zx enc xs).set (i * 4) u0).set (i * 4 + 1) u1).set (i * 4 + 2) u2).set (i * 4 + 3) u3 = zx enc (xs.set i x)
 | p :: t, 0, _, x, u0, u1, u2, u3, hx => by
  have h2 := he p
  match hp : enc p, h2 with
  | [a, b, c, d], _ => simp [zx, hp, hx]
 | p :: t, i + 1, h, x, u0, u1, u2, u3, hx => by
  have ih := zml he t i (by simpa using h) x u0 u1 u2 u3 hx;have h2 := he p
  match hp : enc p, h2 with
  | [a, b, c, d], _ =>
   have e : ∀ S : List α, zx enc (p :: S) = a :: b :: c :: d :: zx enc S := by intro S; simp [zx, hp]
   rw [kag, e, e, show (i + 1) * 4 = i * 4 + 1 + 1 + 1 + 1 by omega];simp only [kag]
   rw [ih]
def zi (size : Nat) (enc : α → List Value) (w : World) (a : Option Addr) (xs : List α) : Prop :=
 xs = [] ∨ ∃ b o, a = some ⟨b, o, U⟩ ∧ b < w.heap.size ∧ ∀ i (h : i < xs.length) j u, (enc xs[i])[j]? = some u → w.cell? ⟨b, o + i * size + j, U⟩ = some u
theorem zi.below {size : Nat} {enc : α → List Value} {w w' : World} {a : Option Addr} {xs : List α} (h : zi size enc w a xs) (hb : Z w.heap.size w w') : zi size enc w' a xs := by
 rcases h with rfl | ⟨b, o, rfl, hlt, hc⟩
 ·exact Or.inl rfl
 ·refine Or.inr ⟨b, o, rfl, kaf hlt hb.size, fun i hi j u hu => ?_⟩
  obtain ⟨hcc, _⟩ := zc0 hb;exact (hcc _ _ hlt).trans (hc i hi j u hu)
theorem zi.take {size : Nat} {enc : α → List Value} {w : World} {a : Option Addr} {xs : List α} (h : zi size enc w a xs) (k : Nat) : zi size enc w a (xs.take k) := by
 rcases h with rfl | ⟨b, o, rfl, hlt, hc⟩
 ·exact Or.inl (by simp)
 ·refine Or.inr ⟨b, o, rfl, hlt, fun i hi j u hu => ?_⟩
  have hi' : i < xs.length := by simp at hi; omega
  exact hc i hi' j u (by simpa using hu)
theorem zi.src {size : Nat} {enc : α → List Value} (he : ∀ x, (enc x).length = size) (h0 : 0 < size) {w : World} {a : Option Addr} {xs : List α} (h : zi size enc w a xs) : SrcAt w a xs.length size (zx enc xs) := by
 refine ⟨zdh he xs, ?_⟩;rcases h with rfl | ⟨b, o, rfl, hlt, hc⟩
 ·exact Or.inl rfl
 ·refine Or.inr ⟨_, rfl, fun j u hj => ?_⟩
  have hadd : (⟨b, o, U⟩ : Addr).add j = ⟨b, o + j, U⟩ := by unfold Addr.add; split <;> simp_all
  rw [hadd]
  have hlt : j < xs.length * size := by
   rcases kab j (xs.length * size) with h' | h'
   ·exact h'
   ·rw [kaj (by rw [zdh he]; exact h')] at hj; cases hj
  have hi := Nat.div_lt_of_lt_mul (by rw [Nat.mul_comm]; exact hlt);have hm : j = j / size * size + j % size := by rw [Nat.mul_comm]; exact (Nat.div_add_mod j size).symm
  have hms : j % size < size := Nat.mod_lt _ h0;rw [hm, zg4 he xs _ hi _ hms] at hj;have := hc _ hi _ u hj;rw [Nat.add_assoc, ← hm] at this;exact this
theorem zi.one {size : Nat} {enc : α → List Value} {w : World} {B : Nat} {x : α} {cs : Array Value} {t : TypeId} (h : Blk w B cs t) (hx : cs.toList = enc x) : zi size enc w (some ⟨B, 0, U⟩) [x] := by
 refine Or.inr ⟨B, 0, rfl, h.lt, fun i hi j u hu => ?_⟩;have h0 : i = 0 := by simpa using hi
 subst h0;simp only [Nat.zero_mul, Nat.zero_add]
 rw [h.cell, ← Array.getElem?_toList, hx];exact hu
def za (e : TypeId) (size : Nat) (enc : α → List Value) (w : World) (base : Nat) (v : Value) (xs : List α) : Prop := w.ownsRow base e size v xs.length (zx enc xs)
section
variable {e : TypeId} {size : Nat} {enc : α → List Value} {w w' : World} {base : Nat} {v : Value} {xs : List α}
theorem za.below (h : za e size enc w base v xs) {B : Nat} (hb : Z B w w') (hB : w.heap.size ≤ B) : za e size enc w' base v xs := zhl h hb hB
theorem za.nil (w : World) (base : Nat) : za e size enc w base (G U 0 0) [] := World.ownsRow_nil _ _ _ _
theorem za.row (he : ∀ x, (enc x).length = size) (h : za e size enc w base v xs) : ∃ a cap, v = G a xs.length cap ∧ zi size enc w a xs ∧ xs.length ≤ cap ∧ cap ≤ maxLen := by
 rcases h.2 with ⟨hv, h0⟩ | ⟨g, cap, cur, hv, hg, hh, hcap, hmx, hsz, htake⟩
 ·exact ⟨U, 0, by rw [hv, h0], Or.inl (kad h0), by omega, Nat.zero_le _⟩
 ·have hh' := h
  unfold za at hh'
  rw [hv] at hh';refine ⟨_, cap, hv, Or.inr ⟨g, 0, rfl, ?_, fun i hi j u hu => ?_⟩, hcap, hmx⟩
  ·rcases kab g w.heap.size with h' | h'
   ·exact h'
   ·rw [kai h'] at hh; cases hh
  ·have hj : j < size := by
    rcases kab j size with h' | h'
    ·exact h'
    ·rw [kaj (by rw [he]; exact h')] at hu; cases hu
   rw [Nat.zero_add, hh'.cellAt _ ?_, zg4 he xs i hi j hj, hu];have h3 : (i + 1) * size ≤ xs.length * size := Nat.mul_le_mul_right _ hi;rw [Nat.add_mul] at h3;omega
theorem za.blk (h : za e size enc w base v xs) {g : Nat} (hg : v.ownBlock = some g) : base ≤ g ∧ ∃ cs, Blk w g cs e := by
 rcases h.2 with ⟨hv, h0⟩ | ⟨g', cap, cur, hv, hg', hh, _⟩
 ·rw [hv] at hg; cases hg
 ·rw [hv] at hg; cases hg; exact ⟨hg', cur, hh⟩
theorem za.kept (h : za e size enc w base v xs) {row : Option Nat} (hg : w.grownBy w' row) (hne : v.ownBlock = U ∨ v.ownBlock ≠ row) : za e size enc w' base v xs := World.ownsRow.kept h hg hne
theorem za.keptT (h : za e size enc w base v xs) {row : Option Nat} (hg : w.grownBy w' row) (hne : ∀ k, row = some k → ∃ cs t, Blk w k cs t ∧ t ≠ e) : za e size enc w' base v xs := by
 refine h.kept hg ?_
 cases hv : v.ownBlock with
 | none => exact Or.inl rfl
 | some g =>
  refine Or.inr fun hr => ?_
  obtain ⟨cs, t, hb, hte⟩ := hne g hr.symm;obtain ⟨_, cs', hb'⟩ := h.blk hv;unfold Blk at hb hb'
  rw [hb] at hb';injection hb' with hb'
  injection hb' with _ q _
  exact hte q
theorem za.setOther (h : za e size enc w base v xs) {a : Addr} {cs : Array Value} {t : TypeId} (hb : Blk w a.block cs t) (ht : t ≠ e) (u : Value) : za e size enc (r w a u) base v xs := by
 refine ownsRow_setCell_other h (fun hv => ?_) u;obtain ⟨_, cs', hb'⟩ := h.blk hv;unfold Blk at hb hb'
 rw [hb] at hb';injection hb' with hb'
 injection hb' with _ q _
 exact ht q
theorem za.mono (h : za e size enc w base v xs) {base' : Nat} (hb : base' ≤ base) : za e size enc w base' v xs := World.ownsRow.mono h hb
theorem za.cut {g cap n : Nat} {ys : List α} (he : ∀ x, (enc x).length = size) (h : za e size enc w base (G (some ⟨g, 0, U⟩) n cap) (xs ++ ys)) {m : Nat} (hm : m = xs.length) : za e size enc w base (G (some ⟨g, 0, U⟩) m cap) xs := by
 subst hm;rcases h.2 with ⟨hv, h0⟩ | ⟨g', cap', cur, hv, hg, hh, hcap, hmx, hsz, htake⟩
 ·cases hv
 ·cases hv
  refine ⟨zdh he xs, Or.inr ⟨g, cap, cur, rfl, hg, hh, by rw [List.length_append] at hcap; omega, hmx, hsz, ?_⟩⟩;have h3 : (cur.toList.take ((xs ++ ys).length * size)).take (xs.length * size) = (zx enc (xs ++ ys)).take (xs.length * size) := by rw [htake]
  rw [List.take_take, Nat.min_eq_left (Nat.mul_le_mul_right _ (by simp))] at h3;rw [h3, zfd, ← zdh he xs];exact List.take_left
theorem za.setFar {g cap n j : Nat} (he : ∀ x, (enc x).length = size) (h : za e size enc w base (G (some ⟨g, 0, U⟩) n cap) xs) (hn : n = xs.length) (hj : xs.length * size ≤ j) (u : Value) : za e size enc (r w ⟨g, j, U⟩ u) base (G (some ⟨g, 0, U⟩) n cap) xs := by
 subst hn;have := (World.ownsRow.stored h j u).1;rw [List.set_eq_of_length_le (by rw [zdh he]; exact hj)] at this;exact this
theorem za.setCells {g cap n : Nat} (he : ∀ x, (enc x).length = size) (hn : n = xs.length) : ∀ (vs : List Value) (j : Nat) (w : World), za e size enc w base (G (some ⟨g, 0, U⟩) n cap) xs → xs.length * size ≤ j → za e size enc (w.setCells g j vs) base (G (some ⟨g, 0, U⟩) n cap) xs
 | [], _, _, h, _ => h
 | u :: jj, j, w, h, hj => by
  rw [World.setCells];exact za.setCells he hn jj (j + 1) _ (h.setFar he hn hj u) (by omega)
theorem za.put2 {g cap n i : Nat} (he : ∀ x, (enc x).length = 2) (h : za e 2 enc w base (G (some ⟨g, 0, U⟩) n cap) xs) (hn : n = xs.length) (hi : i < xs.length) {x : α} {u0 u1 : Value} (hx : enc x = [u0, u1]) :
  za e 2 enc (r (r w ⟨g, i * 2, U⟩ u0) ⟨g, i * 2 + 1, U⟩ u1) base (G (some ⟨g, 0, U⟩) n cap) (xs.set i x) := by
 subst hn;have h1 := (World.ownsRow.stored h (i * 2) u0).1;have h2 := (World.ownsRow.stored h1 (i * 2 + 1) u1).1;unfold za
 rw [zln he xs i hi x u0 u1 hx] at h2
 simpa using h2
theorem za.put4 {g cap n i : Nat} (he : ∀ x, (enc x).length = 4) (h : za e 4 enc w base (G (some ⟨g, 0, U⟩) n cap) xs) (hn : n = xs.length) (hi : i < xs.length) {x : α} {u0 u1 u2 u3 : Value} (hx : enc x = [u0, u1, u2, u3]) :
  za e 4 enc (r (r (r (r w ⟨g, i * 4, U⟩ u0) ⟨g, i * 4 + 1, U⟩ u1) ⟨g, i * 4 + 2, U⟩ u2) ⟨g, i * 4 + 3, U⟩ u3) base (G (some ⟨g, 0, U⟩) n cap) (xs.set i x) := by
 subst hn;have h1 := (World.ownsRow.stored h (i * 4) u0).1;have h2 := (World.ownsRow.stored h1 (i * 4 + 1) u1).1;have h3 := (World.ownsRow.stored h2 (i * 4 + 2) u2).1;have h4 := (World.ownsRow.stored h3 (i * 4 + 3) u3).1;unfold za
 rw [zml he xs i hi x u0 u1 u2 u3 hx] at h4
 simpa using h4
end
theorem zbi {enc : α → List Value} {size bytes : Nat} {e t : TypeId} {z : Value} (he : ∀ x, (enc x).length = size) (h1 : ∀ x, ∀ u ∈ enc x, u.oneCell' = true) (ht : Tryz.prog.underlying t = some (.slice e))
  (hinfo : (Tryz.prog.info? e).map (fun i => (i.zero, i.size, i.bytes)) = some (some z, size, bytes)) (hzs : z.cells.size = size) (h0 : 0 < size)
  {ops : Array Oper} {rest : List Oper} {o : Oper} {a : Act} {zZ : Exit → Act → World → Prop} (w : World) (hgd : o.guard = U) (s x : Operand)
  (ho : o.op = .call { callee := .builtin .append, args := #[s, x], argTypes := #[t, t] })
  (base : Nat) (v : Value) (xs : List α) (hs : a.eval s = v) (hown : za e size enc w base v xs) (ad : Option Addr) (m c : Nat) (ys : List α) (hx : a.eval x = G ad m c) (hm : m = ys.length) (hsrc : zi size enc w ad ys)
  (hml : xs.length + ys.length ≤ maxLen) (hl : (xs.length + ys.length) * bytes ≤ 140737488355328) (hbase : base ≤ w.heap.size)
  (h : ∀ a' n' c' w', za e size enc w' base (G a' n' c') (xs ++ ys) → n' = xs.length + ys.length → w.grownBy w' v.ownBlock → (kac (G a' n' c') = v.ownBlock ∨ kac (G a' n' c') = some w.heap.size) → wpList Tryz.prog ops zZ rest (a.put o.dst (G a' n' c')) w') : wpList Tryz.prog ops zZ (o :: rest) a w := by
 subst hm;obtain ⟨i0, hi, hz0, hz1, hz2⟩ := info_parts hinfo;refine zp3 w hgd s x t ho base e i0 _ size bytes ht hi hz0 hz1 hz2 hzs h0 v xs.length (zx enc xs) hs hown ad ys.length c (zx enc ys) hx (hsrc.src he h0) (zhk h1 ys) hml hl hbase ?_;intro v' w' g1 g2 g3
 have hO : za e size enc w' base v' (xs ++ ys) := by
  unfold za
  rw [zfd, List.length_append];exact g1
 obtain ⟨a', c', hv, _⟩ := hO.row he;rw [List.length_append] at hv;subst hv;exact h a' _ c' w' hO rfl g2 g3
theorem zij {enc : α → List Value} {size bytes : Nat} {e t : TypeId} {z : Value} (he : ∀ x, (enc x).length = size) (h1 : ∀ x, ∀ u ∈ enc x, u.oneCell' = true) (ht : Tryz.prog.underlying t = some (.slice e))
  (hinfo : (Tryz.prog.info? e).map (fun i => (i.zero, i.size, i.bytes)) = some (some z, size, bytes)) (hzs : z.cells.size = size) (h0 : 0 < size) (hby : bytes ≤ 1000)
  {ops : Array Oper} {rest : List Oper} {o : Oper} {a : Act} {zZ : Exit → Act → World → Prop} (w : World) (hgd : o.guard = U) (s x : Operand)
  (ho : o.op = .call { callee := .builtin .append, args := #[s, x], argTypes := #[t, t] })
  (base : Nat) (v : Value) (xs : List α) (hs : a.eval s = v) (hown : za e size enc w base v xs) (ad : Option Addr) (m c : Nat) (ys : List α) (hx : a.eval x = G ad m c) (hm : m = ys.length) (hsrc : zi size enc w ad ys)
  (hl : xs.length + ys.length ≤ 1000000) (hbase : base ≤ w.heap.size)
  (h : ∀ a' n' c' w', za e size enc w' base (G a' n' c') (xs ++ ys) → n' = xs.length + ys.length → w.grownBy w' v.ownBlock → (kac (G a' n' c') = v.ownBlock ∨ kac (G a' n' c') = some w.heap.size) → wpList Tryz.prog ops zZ rest (a.put o.dst (G a' n' c')) w') : wpList Tryz.prog ops zZ (o :: rest) a w := by
 exact zbi he h1 ht hinfo hzs h0 w hgd s x ho base v xs hs hown ad m c ys hx hm hsrc (by unfold maxLen; omega) (Nat.le_trans (Nat.mul_le_mul hl hby) (by decide)) hbase h
theorem znx {enc : α → List Value} {size bytes : Nat} {e t : TypeId} {z : Value} (he : ∀ x, (enc x).length = size) (h1 : ∀ x, ∀ u ∈ enc x, u.oneCell' = true) (ht : Tryz.prog.underlying t = some (.slice e))
  (hinfo : (Tryz.prog.info? e).map (fun i => (i.zero, i.size, i.bytes)) = some (some z, size, bytes)) (hzs : z.cells.size = size) (h0 : 0 < size)
  {ops : Array Oper} {o : Oper} {a : Act} {K : Act → World → Prop} {zZ : Exit → Act → World → Prop} {zQ : Prop} (w : World) (hw : Region.wanted o (yielded ops a.tmps) = true) (s x : Operand)
  (ho : o.op = .call { callee := .builtin .append, args := #[s, x], argTypes := #[t, t] })
  (base : Nat) (v : Value) (xs : List α) (hs : a.eval s = v) (hown : za e size enc w base v xs) (ad : Option Addr) (m c : Nat) (ys : List α) (hx : a.eval x = G ad m c) (hm : m = ys.length) (hsrc : zi size enc w ad ys)
  (hml : xs.length + ys.length ≤ maxLen) (hl : (xs.length + ys.length) * bytes ≤ 140737488355328) (hbase : base ≤ w.heap.size)
  (h : ∀ a' n' c' w', za e size enc w' base (G a' n' c') (xs ++ ys) → n' = xs.length + ys.length → w.grownBy w' v.ownBlock → (kac (G a' n' c') = v.ownBlock ∨ kac (G a' n' c') = some w.heap.size) → K (a.put o.dst (G a' n' c')) w') : if Region.wanted o (yielded ops a.tmps) = true then Oper.wp Tryz.prog o a w K zZ else zQ := by
 subst hm;obtain ⟨i0, hi, hz0, hz1, hz2⟩ := info_parts hinfo;rw [if_pos hw];obtain ⟨v', w', hr, g1, g2, g3⟩ := zi1 (P := Tryz.prog) w base t o.type e i0 _ size bytes ht hi hz0 hz1 hz2 hzs h0 v xs.length (zx enc xs) hown ad ys.length c (zx enc ys) (hsrc.src he h0) (zhk h1 ys) hml hl hbase
 have hO : za e size enc w' base v' (xs ++ ys) := by
  unfold za
  rw [zfd, List.length_append];exact g1
 obtain ⟨a', c', hv, _⟩ := hO.row he;rw [List.length_append] at hv;subst hv;unfold Oper.wp execOp
 simp only [ho, resolve, invoke, builtin, Sem.run_bind, Sem.run_pure, Result.andThen_ok, List.map_toArray, List.map_cons, List.map_nil, hs, hx, hr]
 exact h a' _ c' w' hO rfl g2 g3
theorem zet {enc : α → List Value} {size bytes : Nat} {e t : TypeId} {z : Value} (he : ∀ x, (enc x).length = size) (h1 : ∀ x, ∀ u ∈ enc x, u.oneCell' = true) (ht : Tryz.prog.underlying t = some (.slice e))
  (hinfo : (Tryz.prog.info? e).map (fun i => (i.zero, i.size, i.bytes)) = some (some z, size, bytes)) (hzs : z.cells.size = size) (h0 : 0 < size)
  {ops : Array Oper} {o : Oper} {a : Act} {K : Act → World → Prop} {zZ : Exit → Act → World → Prop} {zQ : Prop} (w : World) (hgd : o.guard = U) (s x : Operand)
  (ho : o.op = .call { callee := .builtin .append, args := #[s, x], argTypes := #[t, t] })
  (base : Nat) (v : Value) (xs : List α) (hs : a.eval s = v) (hown : za e size enc w base v xs) (ad : Option Addr) (m c : Nat) (ys : List α) (hx : a.eval x = G ad m c) (hm : m = ys.length) (hsrc : zi size enc w ad ys)
  (hml : xs.length + ys.length ≤ maxLen) (hl : (xs.length + ys.length) * bytes ≤ 140737488355328) (hbase : base ≤ w.heap.size)
  (h : ∀ a' n' c' w', za e size enc w' base (G a' n' c') (xs ++ ys) → n' = xs.length + ys.length → w.grownBy w' v.ownBlock → (kac (G a' n' c') = v.ownBlock ∨ kac (G a' n' c') = some w.heap.size) → K (a.put o.dst (G a' n' c')) w') : if Region.wanted o (yielded ops a.tmps) = true then Oper.wp Tryz.prog o a w K zZ else zQ := by
 exact znx he h1 ht hinfo hzs h0 w (by simp [Region.wanted, hgd]) s x ho base v xs hs hown ad m c ys hx hm hsrc hml hl hbase h
end
def zg (t : TypeId) (w w' : World) : Prop := ∀ b cs, Blk w b cs t → Blk w' b cs t
theorem zg.refl (t : TypeId) (w : World) : zg t w w := fun _ _ h => h
theorem zg.trans {t : TypeId} {a b c : World} (h : zg t a b) (k : zg t b c) : zg t a c := fun _ _ x => k _ _ (h _ _ x)
theorem zg.below {t : TypeId} {w w' : World} {B : Nat} (h : Z B w w') (hB : w.heap.size ≤ B) : zg t w w' := fun _ _ x => x.below h (kaf x.lt hB)
theorem zg.alloc (t : TypeId) (w : World) (o : Obj) : zg t w (w.alloc o) := fun _ _ x => x.alloc o
theorem zg.setCell {t t' : TypeId} {w : World} {a : Addr} {cs : Array Value} (hb : Blk w a.block cs t') (ht : t' ≠ t) (u : Value) : zg t w (r w a u) := fun b cs' x => x.setOther (fun e => by
 subst e;unfold Blk at hb x
 rw [hb] at x;injection x with x
 injection x with _ q _
 exact ht q) u
theorem zg.grown {t : TypeId} {w w' : World} {row : Option Nat} (hg : w.grownBy w' row) (hr : ∀ k, row = some k → ∃ cs t', Blk w k cs t' ∧ t' ≠ t) : zg t w w' := fun b cs x => by
 unfold Blk
 rw [hg.block b x.lt (fun e => ?_)]
 ·exact x
 ·obtain ⟨cs', t', hb, hne⟩ := hr b e.symm
  unfold Blk at hb x
  rw [hb] at x;injection x with x
  injection x with _ q _
  exact hne q
theorem za.grownT {α : Type} {e t : TypeId} {size : Nat} {enc : α → List Value} {w : World} {base : Nat} {v : Value} {xs : List α} (h : za e size enc w base v xs) (hne : e ≠ t) : ∀ k, v.ownBlock = some k → ∃ cs t', Blk w k cs t' ∧ t' ≠ t := fun k hk => by
 obtain ⟨_, cs, hb⟩ := h.blk hk;exact ⟨cs, e, hb, hne⟩
def zai (base : Nat) (w : World) (a : Option Addr) (l : List P3) : Prop :=
 l = [] ∨ ∃ b o cs, a = some ⟨b, o, U⟩ ∧ base ≤ b ∧ Blk w b cs 90 ∧ ∀ i (h : i < l.length), cs[o + i * 3]? = some (E J l[i].1) ∧ cs[o + i * 3 + 1]? = some (E J l[i].2.1) ∧ cs[o + i * 3 + 2]? = some (E J l[i].2.2)
theorem zai.mono {base base' : Nat} {w : World} {a : Option Addr} {l : List P3} (h : zai base w a l) (hb : base' ≤ base) : zai base' w a l := by
 rcases h with h | ⟨b, o, cs, ha, hB, hb', hx⟩
 ·exact Or.inl h
 ·exact Or.inr ⟨b, o, cs, ha, Nat.le_trans hb hB, hb', hx⟩
theorem zai.calm {base : Nat} {w w' : World} {a : Option Addr} {l : List P3} (h : zai base w a l) (hc : zg 90 w w') : zai base w' a l := by
 rcases h with h | ⟨b, o, cs, ha, hB, hb, hx⟩
 ·exact Or.inl h
 ·exact Or.inr ⟨b, o, cs, ha, hB, hc _ _ hb, hx⟩
theorem zai.at {base : Nat} {w : World} {a : Option Addr} {l : List P3} (h : zai base w a l) : zae w a l := by
 rcases h with h | ⟨b, o, cs, ha, hB, hb, hx⟩
 ·exact Or.inl h
 ·refine Or.inr ⟨b, o, ha, hb.lt, fun i hi => ?_⟩
  obtain ⟨h0, h1, h2⟩ := hx i hi;exact ⟨(hb.cell _).trans h0, (hb.cell _).trans h1, (hb.cell _).trans h2⟩
theorem zbw.typed {w : World} {base : Nat} {v : Value} {l : List P3} (h : zbw w base v l) : ∃ a cap, v = G a l.length cap ∧ zai base w a l ∧ l.length ≤ cap ∧ cap ≤ maxLen := by
 rcases h.2 with ⟨hv, h0⟩ | ⟨g, cap, cur, hv, hg, hh, hcap, hmx, hsz, htake⟩
 ·exact ⟨U, 0, by rw [hv, h0], Or.inl (kad h0), by omega, Nat.zero_le _⟩
 ·refine ⟨_, cap, hv, Or.inr ⟨g, 0, cur, rfl, hg, hh, fun i hi => ?_⟩, hcap, hmx⟩
  have key : ∀ (j : Nat) (u : Value), (zd4 l)[j]? = some u → cur[j]? = some u := by
   intro j u hj;rw [← htake] at hj
   have hlt : j < l.length * 3 := by
    rcases kab j (l.length * 3) with h' | h'
    ·exact h'
    ·rw [kaj (by simp; omega)] at hj; cases hj
   rw [List.getElem?_take_of_lt hlt] at hj
   simpa using hj
  obtain ⟨e0, e1, e2⟩ := zj6 l i hi;rw [Nat.zero_add];exact ⟨key _ _ e0, key _ _ e1, key _ _ e2⟩
theorem Blk.keptNe {w w' : World} {b : Nat} {cs : Array Value} {t : TypeId} {row : Option Nat} (hg : w.grownBy w' row) (h : Blk w b cs t) (hne : row ≠ some b) : Blk w' b cs t := by
 unfold Blk
 rw [hg.block b h.lt (fun e => hne e.symm)];exact h
theorem za.made0 {α : Type} {e : TypeId} {size : Nat} {enc : α → List Value} {w : World} {b base : Nat} (h : Blk w b #[] e) (hb : base ≤ b) : za e size enc w base (G (some ⟨b, 0, U⟩) 0 0) [] :=
 ⟨by simp [zx], Or.inr ⟨b, 0, #[], rfl, hb, h, kaa _, Nat.zero_le _, by simp, by simp [zx]⟩⟩
theorem zh8 (w : World) (t e ty : TypeId) (z : Value) (ht : Tryz.prog.underlying t = some (.slice e)) (hv : ∀ w, (zeroValue e).run Tryz.prog w = .ok z w) (h1 : ∀ u ∈ z.cells, u.oneCell' = true) (b o n c : Nat) (hn : 0 < n)
  (hc : ∀ j, j < n * z.cells.size → (w.cell? ⟨b, o + j, U⟩).isSome = true) (hf : ∀ j, j < n * z.cells.size → w.frozen? ⟨b, o + j, U⟩ = false) :
  ∃ vs, (Builtin.clear_ #[t] ty #[G (some ⟨b, o, U⟩) n c]).run Tryz.prog w = .ok (.tuple #[]) (w.setCells b o vs) := by
 have hzl : (Builtin.zeroCells z.cells n).toList.length = n * z.cells.size := by simp [Builtin.zeroCells]
 have hst := run_storeCells_cells (P := Tryz.prog) b o (Builtin.zeroCells z.cells n).toList 0 w (by rw [hzl]; simpa using hc) (by rw [hzl]; simpa using hf) (by
  intro v hv';simp only [Builtin.zeroCells, Array.toList_map, List.mem_map] at hv'
  obtain ⟨i, hi, rfl⟩ := hv'
  have hpos : 0 < z.cells.size := by
   rcases Nat.eq_zero_or_pos z.cells.size with h | h
   ·rw [h] at hi; simp at hi
   ·exact h
  have hlt := Nat.mod_lt i hpos;have e : z.cells[i % z.cells.size]! = z.cells[i % z.cells.size] := getElem!_pos z.cells (i % z.cells.size) hlt;rw [e]
  exact h1 _ (Array.getElem_mem hlt))
 simp only [Nat.add_zero] at hst
 obtain ⟨m, rfl⟩ : ∃ m, n = m + 1 := ⟨n - 1, by omega⟩;exact ⟨(Builtin.zeroCells z.cells (m + 1)).toList, by simp [Builtin.clear_, run_underlying ht, hv, hst]⟩
def ofB (l : List P3) (H : Int) : List P3 := l.filter fun p => decide (p.1 = H)
theorem sadd_comm (s : S4) (a b m n : Int) : zdp (zdp s a m) b n = zdp (zdp s b n) a m := by
 obtain ⟨s0, s1, s2, s3⟩ := s;unfold zdp
 repeat' split
 all_goals first | rfl | (exfalso; omega) | (refine Prod.ext ?_ (Prod.ext ?_ (Prod.ext ?_ ?_)) <;> (try simp only) <;> omega)
theorem zll (s : S4) (p q : P3) : do1 (do1 s p) q = do1 (do1 s q) p := by
 unfold do1
 split <;> split <;> first | rfl | exact sadd_comm _ _ _ _ _
theorem doB_do1 (s : S4) (p : P3) (l : List P3) : doB (do1 s p) l = do1 (doB s l) p := by
 induction l generalizing s with
 | nil => rfl
 | cons q t ih => simp only [doB, List.foldl_cons] at *; rw [zll, ih]
theorem zf3 (s : S4) (p : P3) (l : List P3) : doB s (p :: l) = do1 (doB s l) p := by rw [← doB_do1]; rfl
theorem zkk {H : Int} : ∀ {l seen : List P3}, zds H seen l = 0 → (∀ p ∈ l, inB p H = true) ∧ (∀ p ∈ l, hasB p seen = false) ∧ l.Pairwise (fun p q => zex p q = false)
 | [], _, _ => by simp
 | p :: t, seen, h => by
  simp only [zds] at h
  split at h
  ·rename_i hin
   split at h
   ·cases h
   ·rename_i hh
    obtain ⟨h1, h2, h3⟩ := zkk h
    have h2' : ∀ q ∈ t, hasB q seen = false ∧ zex p q = false := fun q hq => by
     have := h2 q hq;rw [zmi, Bool.or_eq_false_iff] at this;exact this
    refine ⟨fun q hq => ?_, fun q hq => ?_, List.Pairwise.cons (fun q hq => (h2' q hq).2) h3⟩
    ·rcases List.mem_cons.1 hq with rfl | hq
     ·exact hin
     ·exact h1 q hq
    ·rcases List.mem_cons.1 hq with rfl | hq
     ·simpa using hh
     ·exact (h2' q hq).1
  ·cases h
theorem zc5 {l : List P3} {H : Int} (h : zax l H = 0) : 1 ≤ l.length ∧ l.length ≤ 4 ∧ (∀ p ∈ l, inB p H = true) ∧ l.Pairwise (fun p q => zex p q = false) := by
 unfold zax at h
 split at h
 ·cases h
 ·obtain ⟨h1, _, h3⟩ := zkk h
  exact ⟨by omega, by omega, h1, h3⟩
theorem small_of {l : List P3} {H : Int} (h : ∀ p ∈ l, inB p H = true) : zdz l := fun p hp => by
 have := h p hp;simp only [inB, decide_eq_true_eq] at this
 omega
theorem zgg {k : Int} : zb4 k = true ↔ k = 0 ∨ k = 1 ∨ k = 2 ∨ k = 3 := by simp only [zb4, decide_eq_true_eq]; omega
theorem zl4 (s : S4) {k : Int} (h : zb4 k = true) (n : Int) : za8 (zdp s k n) k = za8 s k + n := by
 rcases zgg.1 h with rfl | rfl | rfl | rfl <;> simp [za8, zdp]
theorem zji (s : S4) {j k : Int} (hj : zb4 j = true) (hk : zb4 k = true) (h : j ≠ k) (n : Int) : za8 (zdp s k n) j = za8 s j := by
 rcases zgg.1 hj with rfl | rfl | rfl | rfl <;> rcases zgg.1 hk with rfl | rfl | rfl | rfl <;> first | (exact absurd rfl h) | simp [za8, zdp]
theorem zia {s : S4} {l : List P3} {k : Int} (hk : zb4 k = true) (hl : ∀ p ∈ l, p.2.1 ≠ k) : za8 (doB s l) k = za8 s k := by
 induction l with
 | nil => rfl
 | cons p t ih =>
  rw [zf3];have h1 := ih (fun q hq => hl q (by simp [hq]));unfold do1
  split
  ·rename_i hp; rw [zji _ hk hp (Ne.symm (hl p (by simp)))]; exact h1
  ·exact h1
theorem zmf {s : S4} : ∀ {l : List P3}, l.Pairwise (fun p q => p.2.1 ≠ q.2.1) → ∀ p ∈ l, zb4 p.2.1 = true → za8 (doB s l) p.2.1 = za8 s p.2.1 + p.2.2
 | q :: t, hpw, p, hp, hk => by
  rw [zf3]
  cases hpw with
  | cons hq ht =>
   rcases List.mem_cons.1 hp with rfl | hp
   ·unfold do1
    rw [if_pos hk, zl4 _ hk, zia hk (fun jj hr => (hq jj hr).symm)]
   ·have ih := zmf (s := s) ht p hp hk
    unfold do1
    split
    ·rename_i hqk; rw [zji _ hk hqk (hq p hp).symm]; exact ih
    ·exact ih
theorem zpj {s : S4} : zfx s = true ↔ ∀ k, zb4 k = true → 0 ≤ za8 s k ∧ za8 s k ≤ 1048576 := by
 obtain ⟨s0, s1, s2, s3⟩ := s;simp only [zfx, decide_eq_true_eq]
 constructor
 ·rintro ⟨h0, h1, h2, h3⟩ k hk
  rcases zgg.1 hk with rfl | rfl | rfl | rfl <;> simp [za8] <;> omega
 ·intro h
  have h0 := h 0 (by decide);have h1 := h 1 (by decide);have h2 := h 2 (by decide);have h3 := h 3 (by decide);simp [za8] at h0 h1 h2 h3
  exact ⟨h0, h1, h2, h3⟩
theorem zi8 {s : S4} {l : List P3} : zco s l = 0 ↔ ∀ p ∈ l, zb4 p.2.1 = true → 0 ≤ za8 s p.2.1 + p.2.2 ∧ za8 s p.2.1 + p.2.2 ≤ 1048576 := by
 induction l with
 | nil => simp [zco]
 | cons p t ih =>
  simp only [zco, List.mem_cons, forall_eq_or_imp]
  rw [← ih];by_cases hk : zb4 p.2.1 = true
  ·rw [if_pos hk]
   by_cases h1 : za8 s p.2.1 + p.2.2 < 0
   ·rw [if_pos h1]; constructor
    ·intro h; cases h
    ·rintro ⟨h, _⟩; have := h hk; omega
   ·rw [if_neg h1]
    by_cases h2 : 1048576 < za8 s p.2.1 + p.2.2
    ·rw [if_pos h2]; constructor
     ·intro h; cases h
     ·rintro ⟨h, _⟩; have := h hk; omega
    ·rw [if_neg h2]; exact ⟨fun h => ⟨fun _ => by omega, h⟩, fun h => h.2⟩
  ·rw [if_neg hk]; exact ⟨fun h => ⟨fun h' => absurd h' hk, h⟩, fun h => h.2⟩
theorem zp5 {s : S4} (h : zfx s = true) : zbj 1048576 s := by
 simp only [zfx, decide_eq_true_eq] at h
 obtain ⟨h0, h1, h2, h3⟩ := h;exact ⟨⟨by omega, by omega⟩, ⟨by omega, by omega⟩, ⟨by omega, by omega⟩, ⟨by omega, by omega⟩⟩
abbrev R3 := Int × Int × List P3
abbrev D2 := Int × List P3
abbrev H3 := S4 × List D2 × List Int
abbrev O4 := Int × List P3 × Bool × List Int
def zab (D : List D2) (d : Int) : Bool := D.any fun x => decide (x.1 = d)
def zal (D : List D2) (d : Int) : List D2 := D.filter fun x => !decide (x.1 = d)
def zcg (D : List D2) (d : Int) : List P3 := ((D.find? fun x => decide (x.1 = d)).map (·.2)).getD []
def zbe (h : H3) (jj : R3) : H3 :=
 if jj.1 = 1 then (if zab h.2.1 jj.2.1 then h else (h.1, h.2.1 ++ [(jj.2.1, jj.2.2)], h.2.2))
 else if jj.1 = 2 then (if zab h.2.1 jj.2.1 then (doB h.1 (zcg h.2.1 jj.2.1), zal h.2.1 jj.2.1, h.2.2 ++ [jj.2.1]) else h)
 else if jj.1 = 3 then (h.1, zal h.2.1 jj.2.1, h.2.2)
 else h
def zd (L : List R3) : H3 := L.foldl zbe ((0, 0, 0, 0), [], [])
theorem zer (L : List R3) (jj : R3) : zd (L ++ [jj]) = zbe (zd L) jj := by simp [zd]
def zdc (g : Int × List D2) (jj : R3) : Int × List D2 :=
 if jj.1 = 4 then (g.1 + 1, g.2)
 else if jj.1 = 5 then (g.1, g.2 ++ [(jj.2.1, jj.2.2)])
 else if jj.1 = 6 then (g.1, zal g.2 jj.2.1)
 else g
def zaa (L : List R3) : Int × List D2 := L.foldl zdc (0, [])
theorem zgv (L : List R3) (jj : R3) : zaa (L ++ [jj]) = zdc (zaa L) jj := by simp [zaa]
def zan (L : List R3) : List D2 := (L.filter fun jj => decide (jj.1 = 5)).map fun jj => (jj.2.1, jj.2.2)
theorem zgi (L : List R3) (jj : R3) : zan (L ++ [jj]) = zan L ++ (if jj.1 = 5 then [(jj.2.1, jj.2.2)] else []) := by
 by_cases h : jj.1 = 5 <;> simp [zan, List.filter_append, h]
def OkP (l : List P3) : Prop := l.length ≤ 4 ∧ zdz l ∧ ∀ p ∈ l, zb4 p.2.1 = true
def OkL (L : List R3) : Prop := ∀ jj ∈ L, OkP jj.2.2
theorem ze0 : OkP [] := ⟨by simp, (fun p hp => by cases hp), (fun p hp => by cases hp)⟩
theorem zfk {l : List P3} {H : Int} (h : zax l H = 0) : OkP l := by
 obtain ⟨_, h4, hin, _⟩ := zc5 h;refine ⟨h4, small_of hin, fun p hp => ?_⟩;have := hin p hp;simp only [inB, decide_eq_true_eq] at this
 simp only [zb4, decide_eq_true_eq]; omega
theorem zcz {D : List D2} {d : Int} {x : D2} (h : x ∈ zal D d) : x ∈ D ∧ x.1 ≠ d := by
 simp only [zal, List.mem_filter] at h
 exact ⟨h.1, by simpa using h.2⟩
theorem ziw {D : List D2} {d : Int} (h : zab D d = true) : ∃ x ∈ D, x.1 = d ∧ zcg D d = x.2 := by
 unfold zcg
 cases hf : D.find? fun x => decide (x.1 = d) with
 | none =>
  rw [List.find?_eq_none] at hf;simp only [zab, List.any_eq_true] at h
  obtain ⟨x, hx, hd⟩ := h;exact absurd hd (by simpa using hf x hx)
 | some x => exact ⟨x, List.mem_of_find?_eq_some hf, by simpa using List.find?_some hf, rfl⟩
structure zee (k : Nat) (h : H3) : Prop where
 ok : ∀ x ∈ h.2.1, OkP x.2
 nd : (h.2.1.map (·.1)).Nodup
 within : zbj (k * 4194304) h.1
 few : h.2.1.length ≤ k
 done : h.2.2.length ≤ k
theorem zh9 {D : List D2} (h : (D.map (·.1)).Nodup) (d : Int) : ((zal D d).map (·.1)).Nodup :=
 List.Nodup.sublist (List.Sublist.map _ List.filter_sublist) h
theorem hstep_inv {k : Nat} {h : H3} {jj : R3} (H : zee k h) (hr : OkP jj.2.2) : zee (k + 1) (zbe h jj) := by
 have e : (((k + 1 : Nat) : Int) * 4194304) = (k : Int) * 4194304 + 4194304 := by omega
 have hw : zbj (((k + 1 : Nat) : Int) * 4194304) h.1 := zgx H.within (by omega);unfold zbe
 split
 ·split
  ·exact ⟨H.ok, H.nd, hw, by have := H.few; omega, by have := H.done; omega⟩
  ·rename_i hn
   refine ⟨?_, ?_, hw, ?_, by have := H.done; show h.2.2.length ≤ _; omega⟩
   ·intro x hx
    rcases List.mem_append.1 hx with hx | hx
    ·exact H.ok x hx
    ·rw [List.mem_singleton.1 hx]; exact hr
   ·show ((h.2.1 ++ [(jj.2.1, jj.2.2)]).map (·.1)).Nodup
    rw [List.map_append, List.nodup_append];refine ⟨H.nd, by simp, ?_⟩;intro a ha b hb hab;simp at hb
    subst hb;subst hab;obtain ⟨x, hx, hxa⟩ := List.mem_map.1 ha;exact hn (by simp only [zab, List.any_eq_true]; exact ⟨x, hx, by simpa using hxa⟩)
   ·show (h.2.1 ++ [(jj.2.1, jj.2.2)]).length ≤ k + 1
    have := H.few;simp; omega
 ·split
  ·split
   ·rename_i hs
    obtain ⟨x, hx, hd, hp⟩ := ziw hs;obtain ⟨o1, o2, _⟩ := H.ok x hx;refine ⟨fun y hy => H.ok y (zcz hy).1, zh9 H.nd _, ?_, ?_, ?_⟩
    ·show zbj _ (doB h.1 (zcg h.2.1 jj.2.1))
     rw [hp];refine zgx (zi4 H.within o2) ?_;omega
    ·have := H.few
     have := List.length_filter_le (fun x : D2 => !decide (x.1 = jj.2.1)) h.2.1;show (zal h.2.1 jj.2.1).length ≤ _
     unfold zal; omega
    ·have := H.done
     show (h.2.2 ++ [jj.2.1]).length ≤ _
     simp; omega
   ·exact ⟨H.ok, H.nd, hw, by have := H.few; omega, by have := H.done; omega⟩
  ·split
   ·refine ⟨fun y hy => H.ok y (zcz hy).1, zh9 H.nd _, hw, ?_, by have := H.done; show h.2.2.length ≤ _; omega⟩
    have := H.few;have := List.length_filter_le (fun x : D2 => !decide (x.1 = jj.2.1)) h.2.1;show (zal h.2.1 jj.2.1).length ≤ _
    unfold zal; omega
   ·exact ⟨H.ok, H.nd, hw, by have := H.few; omega, by have := H.done; omega⟩
theorem zft : ∀ {L : List R3}, OkL L → zee L.length (zd L) := by
 intro L;suffices h : ∀ (n : Nat) (L : List R3), L.length = n → OkL L → zee n (zd L) from fun h' => h _ L rfl h'
 intro n
 induction n with
 | zero =>
  intro L hL _;obtain rfl := kad hL;exact ⟨(fun x hx => by cases hx), by simp [zd], by simp [zd, zbj], by simp [zd], by simp [zd]⟩
 | succ n ih =>
  intro L hL hok;have hne : n < L.length := by omega
  have e : L = L.take n ++ [L[n]] := by rw [← zav hne, List.take_of_length_le (by omega)]
  rw [e, zer];refine hstep_inv (ih _ (by simp; omega) (fun jj hr => hok jj (List.mem_of_mem_take hr))) (hok _ (kae hne))
theorem okL_take {L : List R3} (h : OkL L) (k : Nat) : OkL (L.take k) := fun jj hr => h jj (List.mem_of_mem_take hr)
theorem zle {L : List R3} (h : OkL L) {k : Nat} (hk : k ≤ L.length) : zee k (zd (L.take k)) := by
 have := zft (okL_take h k);rwa [List.length_take, Nat.min_eq_left hk] at this
theorem zlu : ∀ (L : List R3), 0 ≤ (zaa L).1 ∧ (zaa L).1 ≤ L.length ∧ (zaa L).2.length ≤ L.length := by
 intro L;suffices h : ∀ (n : Nat) (L : List R3), L.length = n → 0 ≤ (zaa L).1 ∧ (zaa L).1 ≤ n ∧ (zaa L).2.length ≤ n from h _ L rfl
 intro n
 induction n with
 | zero =>
  intro L hL;obtain rfl := kad hL;simp [zaa]
 | succ n ih =>
  intro L hL;have hne : n < L.length := by omega
  have e : L = L.take n ++ [L[n]] := by rw [← zav hne, List.take_of_length_le (by omega)]
  rw [e, zgv];obtain ⟨h1, h2, h3⟩ := ih (L.take n) (by simp; omega);have hf := List.length_filter_le (fun x : D2 => !decide (x.1 = (L[n]).2.1)) (zaa (L.take n)).2;unfold zdc
  repeat' split
  ·exact ⟨by show 0 ≤ (zaa (L.take n)).1 + 1; omega, by show (zaa (L.take n)).1 + 1 ≤ _; omega, by show (zaa (L.take n)).2.length ≤ _; omega⟩
  ·exact ⟨h1, by show (zaa (L.take n)).1 ≤ _; omega, by simp; omega⟩
  ·exact ⟨h1, by show (zaa (L.take n)).1 ≤ _; omega, by show (zal _ _).length ≤ _; unfold zal; omega⟩
  ·exact ⟨h1, by omega, by omega⟩
theorem zo4 (L : List R3) {k : Nat} (hk : k ≤ L.length) : 0 ≤ (zaa (L.take k)).1 ∧ (zaa (L.take k)).1 ≤ k ∧ (zaa (L.take k)).2.length ≤ k := by
 have := zlu (L.take k);rwa [List.length_take, Nat.min_eq_left hk] at this
structure zc8 (L : List R3) : Prop where
 ok : OkL L
 within : ∀ k, k ≤ L.length → zbj 2199023255552 (zd (L.take k)).1
 size : L.length * 40 ≤ 140737488355328
theorem zc8.of {L : List R3} (h : OkL L) (hl : L.length ≤ 500000) : zc8 L :=
 ⟨h, fun k hk => zgx (zle h hk).within (by omega), by omega⟩
abbrev Hd := Option Addr × Nat
abbrev XL := Int × Int × Hd × List P3
abbrev XD := Int × Hd × List P3
def zey (p : P3) : List Value := [E J p.1, E J p.2.1, E J p.2.2]
def zah (x : XL) : List Value := [E J x.1, E J x.2.1, G x.2.2.1.1 x.2.2.2.length x.2.2.1.2]
def zdd (x : XD) : List Value := [E J x.1, G x.2.1.1 x.2.2.length x.2.1.2]
def zb6 (x : XD) : List Value := [E J x.1, G x.2.1.1 x.2.2.length x.2.1.2, .bool true, G U 0 0]
def zu (x : Int) : List Value := [E J x]
theorem lenP (x : P3) : (zey x).length = 3 := rfl
theorem za7 (x : XL) : (zah x).length = 3 := rfl
theorem ze2 (x : XD) : (zdd x).length = 2 := rfl
theorem zdv (x : XD) : (zb6 x).length = 4 := rfl
theorem zaf (x : Int) : (zu x).length = 1 := rfl
theorem oneP (x : P3) : ∀ u ∈ zey x, u.oneCell' = true := by intro u hu; simp [zey] at hu; rcases hu with rfl | rfl | rfl <;> rfl
theorem zcs (x : XL) : ∀ u ∈ zah x, u.oneCell' = true := by intro u hu; simp [zah] at hu; rcases hu with rfl | rfl | rfl <;> rfl
theorem oneD (x : XD) : ∀ u ∈ zdd x, u.oneCell' = true := by intro u hu; simp [zdd] at hu; rcases hu with rfl | rfl <;> rfl
theorem oneO (x : XD) : ∀ u ∈ zb6 x, u.oneCell' = true := by intro u hu; simp [zb6] at hu; rcases hu with rfl | rfl | rfl | rfl <;> rfl
theorem zcw (x : Int) : ∀ u ∈ zu x, u.oneCell' = true := by intro u hu; simp [zu] at hu; rcases hu with rfl; rfl
def ze (x : XL) : R3 := (x.1, x.2.1, x.2.2.2)
def zbm (x : XD) : D2 := (x.1, x.2.2)
theorem zcp : (Tryz.prog.info? 40).map (fun i => (i.zero, i.size, i.bytes)) = some (some (.agg #[E J 0, E J 0, G U 0 0]), 3, 40) := by kernel_rfl
theorem zh4 : (Tryz.prog.info? 80).map (fun i => (i.zero, i.size, i.bytes)) = some (some (.agg #[E J 0, G U 0 0]), 2, 32) := by kernel_rfl
theorem zlz {w : World} {a : Option Addr} {l : List P3} (h : zae w a l) : zi 3 zey w a l := by
 rcases h with rfl | ⟨b, o, rfl, hlt, hc⟩
 ·exact Or.inl rfl
 ·refine Or.inr ⟨b, o, rfl, hlt, fun i hi j u hu => ?_⟩
  obtain ⟨h0, h1, h2⟩ := hc i hi
  match j, hu with
  | 0, hu => rw [← hu]; exact h0
  | 1, hu => rw [← hu]; exact h1
  | 2, hu => rw [← hu]; exact h2
  | j + 3, hu => simp [zey] at hu
def zcc (w : World) (a : Option Addr) (X : List XL) : Prop := zi 3 zah w a X ∧ ∀ x ∈ X, zae w x.2.2.1.1 x.2.2.2
theorem zcc.below {w w' : World} {a : Option Addr} {X : List XL} (h : zcc w a X) (hb : Z w.heap.size w w') : zcc w' a X := ⟨h.1.below hb, fun x hx => (h.2 x hx).below hb⟩
theorem zcc.get {w : World} {a : Option Addr} {X : List XL} (h : zcc w a X) {k : Nat} (hk : k < X.length) : ∃ b o, a = some ⟨b, o, U⟩ ∧ b < w.heap.size ∧ w.cell? ⟨b, o + k * 3, U⟩ = some (E J X[k].1) ∧ w.cell? ⟨b, o + k * 3 + 1, U⟩ = some (E J X[k].2.1) ∧
  w.cell? ⟨b, o + k * 3 + 2, U⟩ = some (.slice X[k].2.2.1.1 X[k].2.2.2.length X[k].2.2.1.2) ∧ zae w X[k].2.2.1.1 X[k].2.2.2 := by
 rcases h.1 with rfl | ⟨b, o, rfl, hlt, hc⟩
 ·simp at hk
 ·exact ⟨b, o, rfl, hlt, hc k hk 0 _ rfl, hc k hk 1 _ rfl, hc k hk 2 _ rfl, h.2 _ (kae hk)⟩
def zfn (w : World) (a : Option Addr) (X : List XD) : Prop := zi 2 zdd w a X ∧ ∀ x ∈ X, zae w x.2.1.1 x.2.2
theorem zfn.below {w w' : World} {a : Option Addr} {X : List XD} (h : zfn w a X) (hb : Z w.heap.size w w') : zfn w' a X := ⟨h.1.below hb, fun x hx => (h.2 x hx).below hb⟩
theorem zfn.get {w : World} {a : Option Addr} {X : List XD} (h : zfn w a X) {k : Nat} (hk : k < X.length) : ∃ b o, a = some ⟨b, o, U⟩ ∧ b < w.heap.size ∧ w.cell? ⟨b, o + k * 2, U⟩ = some (E J X[k].1) ∧
  w.cell? ⟨b, o + k * 2 + 1, U⟩ = some (.slice X[k].2.1.1 X[k].2.2.length X[k].2.1.2) ∧ zae w X[k].2.1.1 X[k].2.2 := by
 rcases h.1 with rfl | ⟨b, o, rfl, hlt, hc⟩
 ·simp at hk
 ·exact ⟨b, o, rfl, hlt, hc k hk 0 _ rfl, hc k hk 1 _ rfl, h.2 _ (kae hk)⟩
theorem zgo (a : Option Addr) (l : List P3) (cap n : Nat) (w : World) (hn : n = l.length) (hl : l.length ≤ 1000) (hp : zae w a l) :
  Calls Tryz.prog 45 #[G a n cap] w fun e w' => ∃ a' c', e = .returned (G a' n c') ∧ zai w.heap.size w' a' l ∧ Z w.heap.size w w' := by
 have q : ∀ (w : World) (a : Option Addr) (n c n' c' : Nat), (binOp .eql 23 (G a n c) (G U n' c')).run Tryz.prog w = .ok (.bool a.isNone) w := fun w a n c n' c' => Lib.run_eql_slice_nil w _ _ a n c n' c' Tryz.underlying23
 cases a with
 | none =>
  have h0 : l = [] := by
   rcases hp with h | ⟨b, o, h, _⟩
   ·exact h
   ·cases h
  subst h0;subst hn;clear hp;go_enter Tryz.func45, Tryz.ntmps45
  go_wp2;go_ret;exact ⟨_, _, rfl, Or.inl rfl, Below.refl _ _⟩
 | some ad =>
  have HP := zA hp;have HN := zA hn;clear hp hn;go_enter Tryz.func45, Tryz.ntmps45
  go_wp2_with (at_builtin; refine zij lenP oneP Tryz.underlying23 zif rfl (by decide) (by decide) _ rfl _ _ rfl w.heap.size _ [] rfl (World.ownsRow_made w #[] 0 (kaa _) (Nat.zero_le _) (by simp)) (some ad) n cap l rfl HN.out (zlz (HP.out.below (zh w _))) (by simp; omega) (by simp) ?_; intro a' n' c' w1 hown hn' hgrow hat)
  have HO : Q (zbw w1 w.heap.size (G a' n' c') l ∧ n' = n) := ⟨by rw [List.nil_append] at hown; exact hown, by rw [hn', HN.out]; simp⟩;clear hown hn' hat;go_wp2;go_ret;obtain ⟨a2, c2, hv, ht, _⟩ := HO.out.1.typed;cases hv;have e := HO.out.2;subst e;refine ⟨a', c', rfl, ht, ?_⟩;exact ((Below.refl _ w).alloc (kaa _) _).grown hgrow (by simp) (by intro k hk; cases hk; exact kaa _)
theorem deed_any (k d : Int) (a : Option Addr) (l : List P3) (cap n : Nat) (w : World) (hn : n = l.length) (hl : l.length ≤ 1000) (hp : zae w a l) :
  Calls Tryz.prog 86 #[.agg #[E J k, E J d, G a n cap]] w fun e w' => ∃ a' c', e = .returned (.agg #[E J d, G a' n c']) ∧ zai w.heap.size w' a' l ∧ Z w.heap.size w w' := by
 have HP := zB hp hn;clear hp hn;go_enter Tryz.func86, Tryz.ntmps86
 go_wp2_with fail
 have hbX := zaw w (T #[E J k, E J d, G a n cap] 40) (T #[E J 0, G U 0 0] 80);have hr : Blk ((w.alloc (T #[E J k, E J d, G a n cap] 40)).alloc (T #[E J 0, G U 0 0] 80)) w.heap.size #[E J k, E J d, G a n cap] 40 := (Blk.new w _ _).alloc _;have hz : Blk ((w.alloc (T #[E J k, E J d, G a n cap] 40)).alloc (T #[E J 0, G U 0 0] 80)) (w.heap.size + 1) #[E J 0, G U 0 0] 80 := zao _ _ _;have hp := HP.out.1.below hbX;generalize ((w.alloc (T #[E J k, E J d, G a n cap] 40)).alloc (T #[E J 0, G U 0 0] 80)) = X at *;have HX : Q (zae X a l ∧ Z w.heap.size w X ∧ (∀ w', Z X.heap.size X w' → Blk w' (w.heap.size + 1) #[E J 0, G U 0 0] 80)) := ⟨hp, hbX, fun w' hb => hz.below hb hz.lt⟩
 have HK : Q (∀ w', Z X.heap.size X w' → ((w'.cell? ⟨w.heap.size, 1, U⟩ = some (E J d) ∧ w'.cell? ⟨w.heap.size, 2, U⟩ = some (G a n cap)) ∧ (w'.cell? ⟨w.heap.size + 1, 0, U⟩ = some (E J 0) ∧ w'.cell? ⟨w.heap.size + 1, 1, U⟩ = some (G U 0 0)) ∧ w'.frozen? ⟨w.heap.size + 1, 0, U⟩ = false ∧ w'.frozen? ⟨w.heap.size + 1, 1, U⟩ = false)) := fun w' hb =>
  ⟨⟨(hr.below hb hr.lt).cell 1, (hr.below hb hr.lt).cell 2⟩, ⟨(hz.below hb hz.lt).cell 0, (hz.below hb hz.lt).cell 1⟩, (hz.below hb hz.lt).free 0, (hz.below hb hz.lt).free 1⟩
 have hX0 : Z X.heap.size X X.drew := (Below.refl _ _).drew;obtain ⟨⟨i0, i1⟩, ⟨i2, i3⟩, i4, i5⟩ := HK.out _ hX0;clear hr hz hp hbX;go_region_with (go_at_call 45; refine (zgo a l cap n _ HP.out.2 hl (by exact HX.out.1.below hX0)).mono ?_; rintro e we ⟨a', c', rfl, ht, hbe⟩; have hBe : Z X.heap.size X we := hX0.trans (hbe.mono hX0.size); obtain ⟨⟨j0, j1⟩, ⟨j2, j3⟩, j4, j5⟩ := HK.out _ hBe; clear hbe i0 i1 i2 i3 i4 i5)
 all_goals
  have hz := HX.out.2.2 _ hBe;have hb2 := (hz.set 0 (E J d)).set 1 (G a' n c');have ht2 : zai w.heap.size ((we.setCell ⟨w.heap.size + 1, 0, U⟩ (E J d)).setCell ⟨w.heap.size + 1, 1, U⟩ (G a' n c')) a' l := ((ht.mono (show w.heap.size ≤ _ from HX.out.2.1.size)).calm (zg.setCell (a := ⟨w.heap.size + 1, 0, U⟩) hz (by decide) _)).calm (zg.setCell (a := ⟨w.heap.size + 1, 1, U⟩) (hz.set 0 (E J d)) (by decide) _);have hbw : Z w.heap.size w ((we.setCell ⟨w.heap.size + 1, 0, U⟩ (E J d)).setCell ⟨w.heap.size + 1, 1, U⟩ (G a' n c')) := ((HX.out.2.1.trans (hBe.mono HX.out.2.1.size)).setCell (by simp) _).setCell (by simp) _;clear ht j0 j1 j2 j3 j4 j5 hz;go_wp2_with fail
  have e0 := hb2.cell 0;have e1 := hb2.cell 1;simp only [List.setIfInBounds_toArray, List.set_cons_zero, kag, List.getElem?_toArray, List.getElem?_cons_zero, List.getElem?_cons_succ] at e0 e1
  refine bodyPost_ret (v := .agg #[E J d, G a' n c']) ?_ rfl ⟨a', c', rfl, ht2, hbw⟩;simp [results, Tryz.results86, go_sem, e0, e1]
theorem za.setNew {α : Type} {e : TypeId} {size : Nat} {enc : α → List Value} {w : World} {base : Nat} {v : Value} {xs : List α} (h : za e size enc w base v xs) {a : Addr} (ha : v.ownBlock ≠ some a.block) (u : Value) : za e size enc (r w a u) base v xs := ownsRow_setCell_other h ha u
theorem za.other {α : Type} {e : TypeId} {size : Nat} {enc : α → List Value} {w : World} {base : Nat} {v : Value} {xs : List α} (h : za e size enc w base v xs) {g : Nat} (hg : w.heap.size ≤ g) : v.ownBlock ≠ some g := fun hv => by
 have := (World.ownsRow.lt h g hv).2;omega
theorem za.base {α : Type} {e : TypeId} {size : Nat} {enc : α → List Value} {w : World} {base : Nat} {v : Value} {xs : List α} (h : za e size enc w base v xs) : ∀ k, v.ownBlock = some k → base ≤ k := fun k hk => (World.ownsRow.lt h k hk).1
theorem zh5 {α β : Type} {X : List α} {k : Nat} (h : k < X.length) (f : α → β) : (X.take (k + 1)).map f = (X.take k).map f ++ [f X[k]] := by rw [zav h, List.map_append]; rfl
theorem zja {X : List XL} (h : OkL (X.map ze)) {k : Nat} (hk : k < X.length) : OkP X[k].2.2.2 := h (ze X[k]) (List.mem_map.2 ⟨_, kae hk, rfl⟩)
def zc7 (w : World) (base : Nat) (v : Value) (Y : List XL) : Prop := za 40 3 zah w base v Y ∧ ∀ y ∈ Y, zai base w y.2.2.1.1 y.2.2.2
theorem zc7.at {w : World} {base : Nat} {a : Option Addr} {n c : Nat} {Y : List XL} (h : zc7 w base (G a n c) Y) : zcc w a Y := by
 obtain ⟨a', c', hv, hrow, _⟩ := h.1.row za7;cases hv;exact ⟨hrow, fun y hy => (h.2 y hy).at⟩
theorem zc7.below {w w' : World} {base : Nat} {v : Value} {Y : List XL} (h : zc7 w base v Y) (hb : Z w.heap.size w w') : zc7 w' base v Y := ⟨h.1.below hb (kaa _), fun y hy => (h.2 y hy).calm (zg.below hb (kaa _))⟩
theorem zc7.mono {w : World} {base base' : Nat} {v : Value} {Y : List XL} (h : zc7 w base v Y) (hb : base' ≤ base) : zc7 w base' v Y := ⟨h.1.mono hb, fun y hy => (h.2 y hy).mono hb⟩
theorem zj2 (a : Option Addr) (X : List XL) (cap n : Nat) (w : World) (hn : n = X.length) (hl : X.length ≤ 3518437208883) (hok : OkL (X.map ze)) (hp : zcc w a X) :
  Calls Tryz.prog 44 #[G a n cap] w fun e w' => ∃ a' c' Y, e = .returned (G a' n c') ∧ Y.map ze = X.map ze ∧ zc7 w' w.heap.size (G a' n c') Y ∧ Z w.heap.size w w' := by
 have HN := zC hn hok hp;have hnl : n ≤ 3518437208883 := by omega
 clear hn hok hp;go_enter Tryz.func44, Tryz.ntmps44
 go_wp2;go_loopw [3, 8] (fun v i w' => ∃ (k : Nat) (Y : List XL), k ≤ n ∧ i = E J k ∧ Q (Y.map ze = (X.take k).map ze) ∧ za 40 3 zah w' w.heap.size v Y ∧ Q (∀ y ∈ Y, zai w.heap.size w' y.2.2.1.1 y.2.2.2) ∧ Z w.heap.size w w') (fun _ i _ => n - (intOf i).toNat)
 case atStart => exact ⟨0, [], Nat.zero_le _, rfl, rfl, za.nil _ _, (fun y hy => by cases hy), Below.refl _ _⟩
 case round =>
  obtain ⟨k, Y, hk, rfl, hY, hown, hT, hbw⟩ := hrel;have hsz := hbw.size
  have hYl : Y.length = k := by
   have := congrArg List.length hY.out;have h2 := HN.out.1;simp at this
   omega
  by_cases hlt : k < n
  ·have hkX : k < X.length := by have := HN.out.1; omega
   obtain ⟨b, o, rfl, hb, c0, c1, c2, hq⟩ := (HN.out.2.2.below hbw).get hkX;have hokk := zja HN.out.2.1 hkX;have HE : Q ((X.take (k + 1)).map ze = (X.take k).map ze ++ [ze X[k]]) := zh5 hkX _
   obtain ⟨av, nv, cv, rfl⟩ : ∃ a n c, u3 = G a n c := by
    obtain ⟨a, c, hv, _⟩ := hown.row za7;exact ⟨a, _, c, hv⟩
   generalize X[k] = x at *;obtain ⟨kd, dd, ⟨ax, cx⟩, l⟩ := x;simp only at c0 c1 c2 hq hokk
   have HQ : Q (zae wr ax l ∧ l.length ≤ 1000 ∧ za 40 3 zah wr w.heap.size (G av nv cv) Y) := ⟨hq, by have := hokk.1; omega, hown⟩;clear hq hokk hown;generalize hll : l.length = nl at *;go_wp2_with fail
   refine (zgo ax l cx nl _ hll.symm (by have := HQ.out.2.1; omega) (HQ.out.1.below (zh wr _))).mono ?_;rintro e w1 ⟨a1, c1', rfl, ht1, hb1⟩;have hbr := (zh wr _).trans (hb1.mono (by simp));have hr1 : Blk w1 wr.heap.size #[E J kd, E J dd, G ax nl cx] 40 := (Blk.new wr _ _).below hb1 (by simp);have hr2 := hr1.set 2 (G a1 nl c1');have hne := HQ.out.2.2.other (kaa wr.heap.size);have ho2 : za 40 3 zah (r w1 ⟨wr.heap.size, 2, U⟩ (G a1 nl c1')) w.heap.size (G av nv cv) Y := (HQ.out.2.2.below hbr (kaa _)).setNew (a := ⟨wr.heap.size, 2, U⟩) hne _;have hcalm : zg 90 w1 (r w1 ⟨wr.heap.size, 2, U⟩ (G a1 nl c1')) := zg.setCell (a := ⟨wr.heap.size, 2, U⟩) hr1 (by decide) _
   have hT2 : Q (∀ y ∈ Y ++ [(kd, dd, (a1, c1'), l)], zai w.heap.size (r w1 ⟨wr.heap.size, 2, U⟩ (G a1 nl c1')) y.2.2.1.1 y.2.2.2) := fun y hy => by
    rcases List.mem_append.1 hy with hy | hy
    ·exact ((hT.out y hy).calm (zg.below hbr (kaa _))).calm hcalm
    ·rw [List.mem_singleton.1 hy]; exact (ht1.mono (by simp; omega)).calm hcalm
   have hB2 : Z w.heap.size w (r w1 ⟨wr.heap.size, 2, U⟩ (G a1 nl c1')) := (hbw.trans (hbr.mono hsz)).setCell (by simpa using hsz) _;have f2 := hr1.free 2;have g2 := hr1.cell 2;simp at g2
   have HB : Q (Blk (r w1 ⟨wr.heap.size, 2, U⟩ (G a1 nl c1')) wr.heap.size #[E J kd, E J dd, G a1 nl c1'] 40) := hr2;clear ht1 hb1 hbr hr1 hcalm c0 c1 c2 hr2 hT;have HO := zA ho2;clear ho2;go_upto_region 6 with fail
   generalize r w1 ⟨wr.heap.size, 2, U⟩ (G a1 nl c1') = w2 at *;have e0 := HB.out.cell 0;have e1 := HB.out.cell 1;have e2 := HB.out.cell 2;simp at e0 e1 e2
   clear f2 g2;have hlY : Y.length + 1 ≤ 3518437208883 := by omega
   have HL := zA hll;clear hll;go_wp2_with (at_builtin; refine zbi za7 zcs Tryz.underlying26 zcp rfl (by decide) _ rfl _ _ rfl w.heap.size _ Y rfl (HO.out.below (zh w2 _) (kaa _)) (some ⟨w2.heap.size, 0, U⟩) 1 1 [(kd, dd, (a1, c1'), l)] rfl rfl (zi.one (Blk.new w2 _ _) (by simp [zah, HL.out])) (by unfold maxLen; simp; omega) (by simp; omega) (by have := hB2.size; simp; omega) ?_; intro a' n' c' w3 hown3 hn3 hgrow3 hat3; clear hn3)
   have hB3 := (hB2.alloc hB2.size _).grown hgrow3 (by have := hB2.size; simp; omega) HO.out.base;have hC3 : zg 90 w2 w3 := (zg.alloc _ _ _).trans (zg.grown hgrow3 ((HO.out.below (zh w2 _) (kaa _)).grownT (by decide)))
   have HF : Q ((Y ++ [(kd, dd, (a1, c1'), l)]).map ze = (X.take (k + 1)).map ze) := by
    show _ = _
    rw [HE.out, List.map_append, hY.out];rfl
   have HT3 : Q (∀ y ∈ Y ++ [(kd, dd, (a1, c1'), l)], zai w.heap.size w3 y.2.2.1.1 y.2.2.2) := fun y hy => (hT2.out y hy).calm hC3
   clear hC3 hgrow3 hat3 hT2 HO HB e0 e1 e2;go_wp2;go_roundw
   case rel => exact ⟨k + 1, _, by omega, by go_num, HF, hown3, HT3, hB3⟩
   case measure => simp [intOf]; omega
  ·have hkn : k = n := by omega
   obtain ⟨av, cv, rfl, hrow, _⟩ := hown.row za7;have HF : Q (Y.map ze = X.map ze ∧ Y.length = n ∧ za 40 3 zah wr w.heap.size (G av Y.length cv) Y) := ⟨by rw [hY.out, List.take_of_length_le (by have := HN.out.1; omega)], by omega, hown⟩;clear hown hY hrow;generalize Y.length = ny at *;go_wp2;go_ret;have e := HF.out.2.1;subst e;exact ⟨av, cv, Y, rfl, HF.out.1, ⟨HF.out.2.2, hT.out⟩, hbw⟩
def Idx (X : List XD) (D jj : Int) : Prop := (jj = -1 ∧ ∀ x ∈ X, x.1 ≠ D) ∨ ∃ i, ∃ h : i < X.length, jj = (i : Int) ∧ X[i].1 = D ∧ ∀ j, j < i → ∀ h' : j < X.length, X[j].1 ≠ D
theorem zez {w w' : World} (h : Z w.heap.size w w') {row : Option Nat} : w.grownBy w' row := ⟨h.os, h.tape, h.output, h.size, fun k hk _ => h.block k hk⟩
theorem za.at {α : Type} {e : TypeId} {size : Nat} {enc : α → List Value} {w : World} {base : Nat} {a : Option Addr} {n cap : Nat} {xs : List α} (he : ∀ x, (enc x).length = size) (h : za e size enc w base (G a n cap) xs) : zi size enc w a xs ∧ n = xs.length ∧ xs.length ≤ cap ∧ cap ≤ maxLen := by
 obtain ⟨a', cap', hv, h1, h2, h3⟩ := h.row he;cases hv;exact ⟨h1, rfl, h2, h3⟩
theorem zfc (w : World) (g j : Nat) (u : Value) : w.grownBy (r w ⟨g, j, U⟩ u) (some g) := ⟨rfl, rfl, rfl, by simp, fun k _ hk => heap_setCell_other w ⟨g, j, U⟩ k u (fun e => hk (by simp [e]))⟩
theorem zh2 (g : Nat) : ∀ (vs : List Value) (j : Nat) (w : World), w.grownBy (w.setCells g j vs) (some g)
 | [], _, w => World.grownBy.refl _ _
 | u :: jj, j, w => by
  rw [World.setCells];exact (zfc w g j u).trans (zh2 g jj (j + 1) _)
end Go.Proofs.YtpcnlifmkhagkaaGreat
