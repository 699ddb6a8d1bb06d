import Derived.Test.YtpcnlifmkhagkaaGreatProg
import Derived.WalkKit
import Derived.WalkSpells
import Derived.WalkLawsBesides
import Derived.BigQuiet
import Derived.Deep.RegionHeld3
import Derived.Deep.DrawnRows
import Derived.Deep.AppendLies
import Derived.WalkSmall
import Derived.Deep.AppendSrc
import Derived.Laws.Rows
import Derived.Laws.OwnMore
import Derived.Deep.Onto
import Derived.OneCell
set_option maxRecDepth 20000
set_option maxHeartbeats 20000000
namespace Go.Proofs.YtpcnlifmkhagkaaGreat
open Go.RowKit
open Value renaming slice → G, int → E
open IntKind renaming i64 → J
open Option renaming none → U
open Obj renaming cells → T
open Go renaming Hid → Q, Below → Z
open World renaming setCell → r
open Tryz renaming prog → kaa
open Nat renaming lt_or_ge → kab, lt_of_lt_of_le → kad
open Value renaming ownBlock → kac
open List renaming getElem?_append_right → kae, eq_nil_of_length_eq_zero → kag, getElem?_eq_none → kah
open Array renaming getElem?_eq_none → kaf
attribute [local go_sem ↓] Go.wp_at_zero Go.wp_at_succ
abbrev P3 := Int × Int × Int
abbrev S4 := Int × Int × Int × Int
def zb5 (k : Int) : Bool := decide (0 ≤ k ∧ k < 4)
def inB (p : P3) (H : Int) : Bool := decide (0 ≤ p.1 ∧ p.1 < H ∧ 0 ≤ p.2.1 ∧ p.2.1 < 4 ∧ -1048576 ≤ p.2.2 ∧ p.2.2 ≤ 1048576)
def zey (p q : P3) : Bool := decide (p.1 = q.1 ∧ p.2.1 = q.2.1)
def hasB (q : P3) (l : List P3) : Bool := l.any fun p => zey p q
def zdo (H : Int) : List P3 → List P3 → Int
 | _, [] => 0
 | seen, p :: t => if inB p H then (if hasB p seen then 4 else zdo H (seen ++ [p]) t) else 3
def zaz (l : List P3) (H : Int) : Int := if l.length < 1 ∨ 4 < l.length then 5 else zdo H [] l
def za7 (s : S4) (k : Int) : Int := if k = 0 then s.1 else if k = 1 then s.2.1 else if k = 2 then s.2.2.1 else s.2.2.2
def zdl (s : S4) (k n : Int) : S4 :=
 if k = 0 then (s.1 + n, s.2.1, s.2.2.1, s.2.2.2) else if k = 1 then (s.1, s.2.1 + n, s.2.2.1, s.2.2.2)
 else if k = 2 then (s.1, s.2.1, s.2.2.1 + n, s.2.2.2) else (s.1, s.2.1, s.2.2.1, s.2.2.2 + n)
def do1 (s : S4) (p : P3) : S4 := if zb5 p.2.1 then zdl s p.2.1 p.2.2 else s
def doB (s : S4) (l : List P3) : S4 := l.foldl do1 s
def zck (s : S4) : List P3 → Int
 | [] => 0
 | p :: t => if zb5 p.2.1 then (if za7 s p.2.1 + p.2.2 < 0 then 11 else if 1048576 < za7 s p.2.1 + p.2.2 then 4 else zck s t) else zck s t
def zf3 (s : S4) : Bool := decide ((0 ≤ s.1 ∧ s.1 ≤ 1048576) ∧ (0 ≤ s.2.1 ∧ s.2.1 ≤ 1048576) ∧ (0 ≤ s.2.2.1 ∧ s.2.2.1 ≤ 1048576) ∧ (0 ≤ s.2.2.2 ∧ s.2.2.2 ≤ 1048576))
def zbj (B : Int) (s : S4) : Prop := (-B ≤ s.1 ∧ s.1 ≤ B) ∧ (-B ≤ s.2.1 ∧ s.2.1 ≤ B) ∧ (-B ≤ s.2.2.1 ∧ s.2.2.1 ≤ B) ∧ (-B ≤ s.2.2.2 ∧ s.2.2.2 ≤ B)
def zd5 (l : List P3) : Prop := ∀ p ∈ l, -1048576 ≤ p.2.2 ∧ p.2.2 ≤ 1048576
theorem zl6 {l : List P3} {k : Nat} (h : k < l.length) : l.drop k = l[k] :: l.drop (k + 1) := List.drop_eq_getElem_cons h
theorem zaw {α : Type} {l : List α} {k : Nat} (h : k < l.length) : l.take (k + 1) = l.take k ++ [l[k]] := List.take_succ_eq_append_getElem h
theorem zlr (q : P3) (l : List P3) (p : P3) : hasB q (l ++ [p]) = (hasB q l || zey p q) := by simp [hasB]
theorem zis (s : S4) (l : List P3) (p : P3) : doB s (l ++ [p]) = do1 (doB s l) p := by simp [doB]
theorem zqm {B : Int} {s : S4} (h : zbj B s) {p : P3} (hp : -1048576 ≤ p.2.2 ∧ p.2.2 ≤ 1048576) : zbj (B + 1048576) (do1 s p) := by
 obtain ⟨⟨a1, a2⟩, ⟨b1, b2⟩, ⟨c1, c2⟩, ⟨d1, d2⟩⟩ := h;obtain ⟨p1, p2⟩ := hp;unfold do1 zdl
 repeat' split
 all_goals (refine ⟨⟨?_, ?_⟩, ⟨?_, ?_⟩, ⟨?_, ?_⟩, ⟨?_, ?_⟩⟩ <;> (try simp only) <;> omega)
theorem zgt {B C : Int} {s : S4} (h : zbj B s) (hc : B ≤ C) : zbj C s := by
 obtain ⟨⟨a1, a2⟩, ⟨b1, b2⟩, ⟨c1, c2⟩, ⟨d1, d2⟩⟩ := h;exact ⟨⟨by omega, by omega⟩, ⟨by omega, by omega⟩, ⟨by omega, by omega⟩, ⟨by omega, by omega⟩⟩
theorem ziu {B : Int} {s : S4} (h : zbj B s) : ∀ {l : List P3}, zd5 l → zbj (B + l.length * 1048576) (doB s l) := by
 intro l
 induction l generalizing s B with
 | nil => intro _; simpa [doB] using h
 | cons p t ih =>
  intro hs;have h1 := zqm h (hs p (by simp));have h2 := ih h1 (fun q hq => hs q (by simp [hq]));exact zgt h2 (by simp only [List.length_cons]; omega)
theorem zqp {l : List P3} (h : zd5 l) (k : Nat) : zd5 (l.take k) := fun p hp => h p (List.mem_of_mem_take hp)
theorem zhr {l : List P3} (h : zd5 l) {k : Nat} (hk : k < l.length) : -1048576 ≤ l[k].2.2 ∧ l[k].2.2 ≤ 1048576 := h _ (List.getElem_mem hk)
theorem fits_step {s : S4} {l : List P3} {k : Nat} (h : k < l.length) : zck s (l.drop k) = if zb5 l[k].2.1 then (if za7 s l[k].2.1 + l[k].2.2 < 0 then 11 else if 1048576 < za7 s l[k].2.1 + l[k].2.2 then 4 else zck s (l.drop (k + 1))) else zck s (l.drop (k + 1)) := by
 rw [zl6 h]; simp only [zck]
theorem zpw {H : Int} {l : List P3} {k : Nat} (h : k < l.length) : zdo H (l.take k) (l.drop k) = if inB l[k] H then (if hasB l[k] (l.take k) then 4 else zdo H (l.take (k + 1)) (l.drop (k + 1))) else 3 := by
 rw [zl6 h]; simp only [zdo]; rw [zaw h]
theorem zfz {a b : Bool} (h : a = b) : Ending.returned (.bool a) = .returned (.bool b) := by rw [h]
theorem zb9 {k : IntKind} {a b : Int} (h : a = b) : Ending.returned (E k a) = .returned (E k b) := by rw [h]
theorem zA {a : Prop} (x : a) : Q a := x
theorem zB {a b : Prop} (x0 : a) (x1 : b) : Q (a ∧ b) := ⟨x0, x1⟩
theorem zC {a b c : Prop} (x0 : a) (x1 : b) (x2 : c) : Q (a ∧ b ∧ c) := ⟨x0, x1, x2⟩
theorem zD {a b c d : Prop} (x0 : a) (x1 : b) (x2 : c) (x3 : d) : Q (a ∧ b ∧ c ∧ d) := ⟨x0, x1, x2, x3⟩
theorem zE {a b c d e : Prop} (x0 : a) (x1 : b) (x2 : c) (x3 : d) (x4 : e) : Q (a ∧ b ∧ c ∧ d ∧ e) := ⟨x0, x1, x2, x3, x4⟩
theorem zF {a b c d e f : Prop} (x0 : a) (x1 : b) (x2 : c) (x3 : d) (x4 : e) (x5 : f) : Q (a ∧ b ∧ c ∧ d ∧ e ∧ f) := ⟨x0, x1, x2, x3, x4, x5⟩
theorem zG {a b c d e f g : Prop} (x0 : a) (x1 : b) (x2 : c) (x3 : d) (x4 : e) (x5 : f) (x6 : g) : Q (a ∧ b ∧ c ∧ d ∧ e ∧ f ∧ g) := ⟨x0, x1, x2, x3, x4, x5, x6⟩
theorem zH {a b c d e f g h : Prop} (x0 : a) (x1 : b) (x2 : c) (x3 : d) (x4 : e) (x5 : f) (x6 : g) (x7 : h) : Q (a ∧ b ∧ c ∧ d ∧ e ∧ f ∧ g ∧ h) := ⟨x0, x1, x2, x3, x4, x5, x6, x7⟩
theorem zh (w : World) (o : Obj) : Z w.heap.size w (w.alloc o) := (Below.refl _ _).alloc (Nat.le_refl _) _
theorem zax (w : World) (o o' : Obj) : Z w.heap.size w ((w.alloc o).alloc o') := ((Below.refl _ _).alloc (Nat.le_refl _) _).alloc (by simp) _
theorem zc1 {W w1 : World} (hb : Z W.heap.size W w1) : (∀ b o, b < W.heap.size → w1.cell? ⟨b, o, U⟩ = W.cell? ⟨b, o, U⟩) ∧ (∀ b o, b < W.heap.size → w1.frozen? ⟨b, o, U⟩ = W.frozen? ⟨b, o, U⟩) :=
 ⟨fun b o h => hb.cell (p := ⟨b, o, U⟩) h, fun b o h => hb.frozen (p := ⟨b, o, U⟩) h⟩
def zag (w : World) (a : Option Addr) (l : List P3) : Prop :=
 l = [] ∨ ∃ b o, a = some ⟨b, o, U⟩ ∧ b < w.heap.size ∧ ∀ i (h : i < l.length),
  w.cell? ⟨b, o + i * 3, U⟩ = some (E J l[i].1) ∧ w.cell? ⟨b, o + i * 3 + 1, U⟩ = some (E J l[i].2.1) ∧ w.cell? ⟨b, o + i * 3 + 2, U⟩ = some (E J l[i].2.2)
theorem zag.below {w w' : World} {a : Option Addr} {l : List P3} (h : zag w a l) (hb : Z w.heap.size w w') : zag w' a l := by
 rcases h with rfl | ⟨b, o, rfl, hlt, hc⟩
 · exact Or.inl rfl
 · refine Or.inr ⟨b, o, rfl, kad hlt hb.size, fun i hi => ?_⟩
  obtain ⟨h1, h2, h3⟩ := hc i hi;obtain ⟨hcc, _⟩ := zc1 hb;exact ⟨(hcc _ _ hlt).trans h1, (hcc _ _ hlt).trans h2, (hcc _ _ hlt).trans h3⟩
def zd7 (l : List P3) : List Value := l.flatMap fun p => [E J p.1, E J p.2.1, E J p.2.2]
theorem zp2 (l : List P3) (p : P3) : zd7 (l ++ [p]) = zd7 l ++ [E J p.1, E J p.2.1, E J p.2.2] := by simp [zd7]
theorem zjt : ∀ (l : List P3) (i : Nat) (h : i < l.length), (zd7 l)[i * 3]? = some (E J l[i].1) ∧ (zd7 l)[i * 3 + 1]? = some (E J l[i].2.1) ∧ (zd7 l)[i * 3 + 2]? = some (E J l[i].2.2)
 | p :: t, 0, _ => by simp [zd7]
 | p :: t, i + 1, h => by
  have ih := zjt t i (by simpa using h);have e : zd7 (p :: t) = [E J p.1, E J p.2.1, E J p.2.2] ++ zd7 t := by simp [zd7]
  rw [e];refine ⟨?_, ?_, ?_⟩
  · rw [kae (by simp; omega)]; simpa [show (i + 1) * 3 - 3 = i * 3 by omega] using ih.1
  · rw [kae (by simp; omega)]; simpa [show (i + 1) * 3 + 1 - 3 = i * 3 + 1 by omega] using ih.2.1
  · rw [kae (by simp; omega)]; simpa [show (i + 1) * 3 + 2 - 3 = i * 3 + 2 by omega] using ih.2.2
def zby (w : World) (base : Nat) (v : Value) (l : List P3) : Prop := w.ownsRow base 90 3 v l.length (zd7 l)
theorem zhb {w w' : World} {base : Nat} {e : TypeId} {size : Nat} {v : Value} {n : Nat} {xs : List Value} (h : w.ownsRow base e size v n xs) {B : Nat} (hb : Z B w w') (hB : w.heap.size ≤ B) : w'.ownsRow base e size v n xs := by
 refine ⟨h.1, ?_⟩;rcases h.2 with h0 | ⟨g, cap, cur, hv, hg, hh, jj⟩
 · exact Or.inl h0
 · refine Or.inr ⟨g, cap, cur, hv, hg, ?_, jj⟩
  have hlt : g < w.heap.size := by
   rcases kab g w.heap.size with h' | h'
   · exact h'
   · rw [kaf h'] at hh; cases hh
  rw [hb.block g (by omega)]; exact hh
theorem zby.below {w w' : World} {base : Nat} {v : Value} {l : List P3} (h : zby w base v l) {B : Nat} (hb : Z B w w') (hB : w.heap.size ≤ B) : zby w' base v l := zhb h hb hB
theorem zby.parts {w : World} {base : Nat} {v : Value} {l : List P3} (h : zby w base v l) : ∃ a cap, v = G a l.length cap ∧ zag w a l ∧ l.length ≤ cap := by
 rcases h.2 with ⟨hv, h0⟩ | ⟨g, cap, cur, hv, hg, hh, hcap, _, hsz, htake⟩
 · exact ⟨U, 0, by rw [hv, h0], Or.inl (kag h0), by omega⟩
 · refine ⟨_, cap, hv, Or.inr ⟨g, 0, rfl, ?_, fun i hi => ?_⟩, hcap⟩
  · rcases kab g w.heap.size with h' | h'
   · exact h'
   · rw [kaf h'] at hh; cases hh
  · have key : ∀ j u, (zd7 l)[j]? = some u → w.cell? ⟨g, j, U⟩ = some u := by
    intro j u hj;rw [cell_of_row w g j cur _ _ hh];rw [← htake] at hj
    have hlt : j < l.length * 3 := by
     rcases kab j (l.length * 3) with h' | h'
     · exact h'
     · rw [kah (by simp; omega)] at hj; cases hj
    rw [List.getElem?_take_of_lt hlt] at hj;simpa using hj
   obtain ⟨e0, e1, e2⟩ := zjt l i hi;rw [Nat.zero_add];exact ⟨key _ _ e0, key _ _ e1, key _ _ e2⟩
theorem zh9 : (kaa.info? 90).map (fun i => (i.zero, i.size, i.bytes)) = some (some (.agg #[E J 0, E J 0, E J 0]), 3, 24) := by kernel_rfl
theorem zku {ops : Array Oper} {rest : List Oper} {o : Oper} {a : Act} {zZ : Exit → Act → World → Prop} (w : World) (hgd : o.guard = U) (s x : Operand)
  (ho : o.op = .call { callee := .builtin .append, args := #[s, x], argTypes := #[23, 23] })
  (base : Nat) (v : Value) (l : List P3) (hs : a.eval s = v) (hown : zby w base v l) (B : Nat) (p : P3) (hx : a.eval x = G (some ⟨B, 0, U⟩) 1 1)
  (hB : w.heap[B]? = some (T #[E J p.1, E J p.2.1, E J p.2.2] 90)) (hl : l.length ≤ 1000000) (hbase : base ≤ w.heap.size)
  (h : ∀ g cap w', zby w' base (G (some ⟨g, 0, U⟩) (l.length + 1) cap) (l ++ [p]) → w.grownBy w' v.ownBlock → (v.ownBlock = some g ∨ g = w.heap.size) → g < w'.heap.size → wpList kaa ops zZ rest (a.put o.dst (G (some ⟨g, 0, U⟩) (l.length + 1) cap)) w') : wpList kaa ops zZ (o :: rest) a w := by
 obtain ⟨i0, hi, hz0, hz1, hz2⟩ := info_parts zh9;refine wpList_append_lies w hgd s x 23 ho base 90 i0 _ 3 24 Tryz.underlying23 hi hz0 hz1 hz2 rfl (by decide) v l.length (zd7 l) hs hown ⟨B, 0, U⟩ 1 1 [E J p.1, E J p.2.1, E J p.2.2] hx rfl (World.news_of_block hB) ?_ (by decide) (by unfold maxLen; omega) (by omega) hbase w.heap.size rfl ?_
 · intro u hu
  simp at hu
  rcases hu with rfl | rfl | rfl <;> rfl
 · intro g cap w' h1 h2 h3 h4
  refine h g cap w' ?_ h2 h3 h4;unfold zby
  rw [zp2];simpa using h1
theorem zao (w : World) (o o' : Obj) : ((w.alloc o).alloc o').heap[w.heap.size + 1]? = some o' := by have := heap_alloc_new (w.alloc o) o'; simpa using this
theorem zpt (w : World) (b o : Nat) : w.setCells b o [] = w := rfl
def SrcAt (w : World) (a : Option Addr) (m size : Nat) (news : List Value) : Prop :=
 news.length = m * size ∧ (m = 0 ∨ ∃ ad, a = some ad ∧ ∀ j u, news[j]? = some u → w.cell? (ad.add j) = some u)
theorem zj4 {P : Program} (w : World) (base : Nat) (t ty e : TypeId) (i : TypeInfo) (z : Value) (size bytes : Nat) (ht : P.underlying t = some (G e)) (hi : P.info? e = some i) (hz : i.zero = some z)
  (hsize : i.size = size) (hby : i.bytes = bytes) (hzs : z.cells.size = size) (hsz : 0 < size)
  (v : Value) (n : Nat) (xs : List Value) (hown : w.ownsRow base e size v n xs)
  (a : Option Addr) (m c : Nat) (news : List Value) (hsrc : SrcAt w a m size news) (h1 : ∀ u ∈ news, u.oneCell' = true)
  (h63 : n + m ≤ maxLen) (hbytes : (n + m) * bytes ≤ 140737488355328) (hbase : base ≤ w.heap.size) :
  ∃ v' w', (Builtin.append_ #[t, t] ty #[v, G a m c]).run P w = .ok v' w' ∧ w'.ownsRow base e size v' (n + m) (xs ++ news) ∧ w.grownBy w' v.ownBlock ∧
   (v'.ownBlock = v.ownBlock ∨ v'.ownBlock = some w.heap.size) := by
 obtain ⟨hl, hs⟩ := hsrc;rcases hs with h0 | ⟨ad, ha, hc⟩
 · subst h0
  have hn := kag (by simpa using hl);subst hn
  cases a with
  | some ad =>
   obtain ⟨v', w', hr, h2, h3, _, h5⟩ := run_append_own_at (P := P) w base t ty e i z size bytes ht hi hz hsize hby hzs hsz v n xs hown ad 0 c [] (by simp) (fun j u hj => by simp at hj) h1 h63 hbytes hbase;exact ⟨v', w', hr, h2, h3, h5⟩
  | none =>
   have hg : w.grownBy w v.ownBlock := ⟨rfl, rfl, rfl, Nat.le_refl _, fun _ _ _ => rfl⟩;refine ⟨v, w, ?_, by simpa using hown, hg, .inl rfl⟩;rcases hown.2 with ⟨hv, _⟩ | ⟨g, cap, cur, hv, _, _, hcap, _⟩
   · subst hv
    simp [Builtin.append_, run_underlying ht, sizeOf, typeInfo, hi, Builtin.lenOf, go_sem]
   · subst hv
    have := run_append_room_src (P := P) w t t ty e i ht hi g 0 n cap (G U 0 c) 0 [] (Src.ofNil w ht c) (by omega) (fun j hj => by simp at hj) (fun j hj => by simp at hj);rw [zpt, Nat.add_zero] at this;exact this
 · subst ha
  obtain ⟨v', w', hr, h2, h3, _, h5⟩ := run_append_own_at (P := P) w base t ty e i z size bytes ht hi hz hsize hby hzs hsz v n xs hown ad m c news hl hc h1 h63 hbytes hbase;exact ⟨v', w', hr, h2, h3, h5⟩
theorem zqt {P : Program} {ops : Array Oper} {rest : List Oper} {o : Oper} {a : Act} {zZ : Exit → Act → World → Prop} (w : World) (hgd : o.guard = U) (s x : Operand) (t : TypeId)
  (ho : o.op = .call { callee := .builtin .append, args := #[s, x], argTypes := #[t, t] })
  (base : Nat) (e : TypeId) (i : TypeInfo) (z : Value) (size bytes : Nat) (ht : P.underlying t = some (G e)) (hi : P.info? e = some i) (hz : i.zero = some z)
  (hsize : i.size = size) (hby : i.bytes = bytes) (hzs : z.cells.size = size) (hsz : 0 < size)
  (v : Value) (n : Nat) (xs : List Value) (hs : a.eval s = v) (hown : w.ownsRow base e size v n xs)
  (ad : Option Addr) (m c : Nat) (news : List Value) (hx : a.eval x = G ad m c) (hsrc : SrcAt w ad m size news) (h1 : ∀ u ∈ news, u.oneCell' = true)
  (h63 : n + m ≤ maxLen) (hbytes : (n + m) * bytes ≤ 140737488355328) (hbase : base ≤ w.heap.size)
  (h : ∀ v' w', w'.ownsRow base e size v' (n + m) (xs ++ news) → w.grownBy w' v.ownBlock → (v'.ownBlock = v.ownBlock ∨ v'.ownBlock = some w.heap.size) → wpList P ops zZ rest (a.put o.dst v') w') :
  wpList P ops zZ (o :: rest) a w := by
 refine wpList_plain hgd fun K hK => ?_
 obtain ⟨v', w', hr, h2, h3, h5⟩ := zj4 (P := P) w base t o.type e i z size bytes ht hi hz hsize hby hzs hsz v n xs hown ad m c news hsrc h1 h63 hbytes hbase;unfold Oper.wp execOp
 simp only [ho, resolve, invoke, builtin, Sem.run_bind, Sem.run_pure, Result.andThen_ok, List.map_toArray, List.map_cons, List.map_nil, hs, hx, hr]
 exact hK _ _ (h v' w' h2 h3 h5)
def Blk (w : World) (b : Nat) (cs : Array Value) (t : TypeId) : Prop := w.heap[b]? = some (T cs t (0, 0))
def zf (R : Nat → Prop) (w w' : World) : Prop :=
 w'.os = w.os ∧ w'.tape = w.tape ∧ w'.output = w.output ∧ w.heap.size ≤ w'.heap.size ∧ ∀ k, k < w.heap.size → ¬ R k → w'.heap[k]? = w.heap[k]?
theorem Blk.lt {w : World} {b : Nat} {cs : Array Value} {t : TypeId} (h : Blk w b cs t) : b < w.heap.size := by
 rcases kab b w.heap.size with h' | h'
 · exact h'
 · unfold Blk at h; rw [kaf h'] at h; cases h
theorem Blk.cell {w : World} {b : Nat} {cs : Array Value} {t : TypeId} (h : Blk w b cs t) (i : Nat) : w.cell? ⟨b, i, U⟩ = cs[i]? := cell_of_row w b i cs t _ h
theorem Blk.free {w : World} {b : Nat} {cs : Array Value} {t : TypeId} (h : Blk w b cs t) (i : Nat) : w.frozen? ⟨b, i, U⟩ = false := frozen_of_row w b i cs t h
theorem Blk.set {w : World} {b : Nat} {cs : Array Value} {t : TypeId} (h : Blk w b cs t) (i : Nat) (v : Value) : Blk (r w ⟨b, i, U⟩ v) b (cs.setIfInBounds i v) t := heap_setCell_same w b i cs t v h
theorem Blk.setOther {w : World} {b : Nat} {cs : Array Value} {t : TypeId} (h : Blk w b cs t) {a : Addr} (hne : b ≠ a.block) (v : Value) : Blk (r w a v) b cs t := by
 unfold Blk; rw [heap_setCell_other w a b v hne]; exact h
theorem Blk.new (w : World) (cs : Array Value) (t : TypeId) : Blk (w.alloc (T cs t)) w.heap.size cs t := heap_alloc_new w _
theorem Blk.alloc {w : World} {b : Nat} {cs : Array Value} {t : TypeId} (h : Blk w b cs t) (o : Obj) : Blk (w.alloc o) b cs t := by
 unfold Blk; rw [Below.heap_alloc w o b h.lt]; exact h
theorem Blk.below {w w' : World} {b : Nat} {cs : Array Value} {t : TypeId} (h : Blk w b cs t) {B : Nat} (hb : Z B w w') (hB : b < B) : Blk w' b cs t := by
 unfold Blk; rw [hb.block b hB]; exact h
theorem Blk.keep {w w' : World} {b : Nat} {cs : Array Value} {t : TypeId} (h : Blk w b cs t) {R : Nat → Prop} (hk : zf R w w') (hR : ¬ R b) : Blk w' b cs t := by
 unfold Blk; rw [hk.2.2.2.2 b h.lt hR]; exact h
theorem zf.refl (R : Nat → Prop) (w : World) : zf R w w := ⟨rfl, rfl, rfl, Nat.le_refl _, fun _ _ _ => rfl⟩
theorem zf.size {R : Nat → Prop} {w w' : World} (h : zf R w w') : w.heap.size ≤ w'.heap.size := h.2.2.2.1
theorem zf.block {R : Nat → Prop} {w w' : World} (h : zf R w w') {k : Nat} (hk : k < w.heap.size) (hR : ¬ R k) : w'.heap[k]? = w.heap[k]? := h.2.2.2.2 k hk hR
theorem zf.trans {R : Nat → Prop} {a b c : World} (h : zf R a b) (k : zf R b c) : zf R a c :=
 ⟨k.1.trans h.1, k.2.1.trans h.2.1, k.2.2.1.trans h.2.2.1, Nat.le_trans h.size k.size, fun _ hi hR => (k.block (kad hi h.size) hR).trans (h.block hi hR)⟩
theorem zf.mono {R S : Nat → Prop} {w w' : World} (h : zf R w w') (hs : ∀ k, k < w.heap.size → R k → S k) : zf S w w' :=
 ⟨h.1, h.2.1, h.2.2.1, h.size, fun k hk hS => h.block hk fun hR => hS (hs k hk hR)⟩
theorem zf.setCell {R : Nat → Prop} {w w' : World} (h : zf R w w') {p : Addr} (hp : R p.block) (u : Value) : zf R w (r w' p u) :=
 h.trans ⟨rfl, rfl, rfl, by simp [World.setCell], fun _ _ hR => heap_setCell_other _ _ _ _ fun e => hR (e ▸ hp)⟩
theorem zf.alloc {R : Nat → Prop} {w w' : World} (h : zf R w w') (o : Obj) : zf R w (w'.alloc o) :=
 h.trans ⟨rfl, rfl, rfl, by simp, fun _ hk _ => Below.heap_alloc _ _ _ hk⟩
theorem zf.drew {R : Nat → Prop} {w w' : World} (h : zf R w w') : zf R w w'.drew := h
theorem zf.ofBelow {R : Nat → Prop} {B : Nat} {w w' : World} (h : Z B w w') (hR : ∀ k, k < w.heap.size → B ≤ k → R k) : zf R w w' :=
 ⟨h.os, h.tape, h.output, h.size, fun k hk hr => h.block k (by rcases kab k B with x | x; exact x; exact absurd (hR k hk x) hr)⟩
theorem zf.below {R : Nat → Prop} {B : Nat} {w w' : World} (h : zf R w w') (hB : B ≤ w.heap.size) (hR : ∀ k, R k → B ≤ k) : Z B w w' :=
 ⟨h.1, h.2.1, h.2.2.1, h.size, fun k hk => h.block (kad hk hB) fun hr => by have := hR k hr; omega⟩
theorem zf.ofGrown {R : Nat → Prop} {w w' : World} {row : Option Nat} (h : w.grownBy w' row) (hR : ∀ k, row = some k → R k) : zf R w w' :=
 ⟨h.os, h.tape, h.output, h.size, fun k hk hr => h.block k hk fun e => hr (hR k e.symm)⟩
theorem zf.cell {R : Nat → Prop} {w w' : World} (h : zf R w w') {b o : Nat} (hb : b < w.heap.size) (hR : ¬ R b) : w'.cell? ⟨b, o, U⟩ = w.cell? ⟨b, o, U⟩ := by
 have := h.block hb hR;unfold World.cell?
 simp only [this]
section
variable {α : Type}
def zx (enc : α → List Value) (xs : List α) : List Value := xs.flatMap enc
theorem ze9 (enc : α → List Value) (xs ys : List α) : zx enc (xs ++ ys) = zx enc xs ++ zx enc ys := by simp [zx]
theorem zdh {enc : α → List Value} {size : Nat} (he : ∀ x, (enc x).length = size) (xs : List α) : (zx enc xs).length = xs.length * size := by
 induction xs with
 | nil => simp [zx]
 | cons p t ih =>
  have e : zx enc (p :: t) = enc p ++ zx enc t := by simp [zx]
  rw [e, List.length_append, ih, he, List.length_cons, Nat.add_mul, Nat.one_mul, Nat.add_comm]
theorem zg7 {enc : α → List Value} {size : Nat} (he : ∀ x, (enc x).length = size) : ∀ (xs : List α) (i : Nat) (h : i < xs.length) (j : Nat), j < size → (zx enc xs)[i * size + j]? = (enc xs[i])[j]?
 | p :: t, 0, _, j, hj => by
  have e : zx enc (p :: t) = enc p ++ zx enc t := by simp [zx]
  rw [e, Nat.zero_mul, Nat.zero_add, List.getElem?_append_left (by rw [he]; exact hj)]; rfl
 | p :: t, i + 1, h, j, hj => by
  have ih := zg7 he t i (by simpa using h) j hj;have e : zx enc (p :: t) = enc p ++ zx enc t := by simp [zx]
  rw [e, kae (by rw [he, Nat.add_mul]; omega), he];rw [show (i + 1) * size + j - size = i * size + j by rw [Nat.add_mul]; omega, ih];rfl
theorem zhq {enc : α → List Value} (h1 : ∀ x, ∀ u ∈ enc x, u.oneCell' = true) (xs : List α) : ∀ u ∈ zx enc xs, u.oneCell' = true := by
 intro u hu;simp only [zx, List.mem_flatMap] at hu
 obtain ⟨p, _, hp⟩ := hu;exact h1 p u hp
theorem zlu {enc : α → List Value} (he : ∀ x, (enc x).length = 2) : ∀ (xs : List α) (i : Nat) (_ : i < xs.length) (x : α) (u0 u1 : Value), enc x = [u0, u1] → ((zx enc xs).set (i * 2) u0).set (i * 2 + 1) u1 = zx enc (xs.set i x)
 | p :: t, 0, _, x, u0, u1, hx => by
  have h2 := he p
  match hp : enc p, h2 with
  | [a, b], _ => simp [zx, hp, hx]
 | p :: t, i + 1, h, x, u0, u1, hx => by
  have ih := zlu he t i (by simpa using h) x u0 u1 hx;have h2 := he p
  match hp : enc p, h2 with
  | [a, b], _ =>
   have e : ∀ S : List α, zx enc (p :: S) = a :: b :: zx enc S := by intro S; simp [zx, hp]
   rw [List.set_cons_succ, e, e, show (i + 1) * 2 = i * 2 + 1 + 1 by omega];simp only [List.set_cons_succ]
   rw [ih]
theorem zk3 {enc : α → List Value} (he : ∀ x, (enc x).length = 4) : ∀ (xs : List α) (i : Nat) (_ : i < xs.length) (x : α) (u0 u1 u2 u3 : Value), enc x = [u0, u1, u2, u3] → ((((zx enc xs).set (i * 4) u0).set (i * 4 + 1) u1).set (i * 4 + 2) u2).set (i * 4 + 3) u3 = zx enc (xs.set i x)
 | p :: t, 0, _, x, u0, u1, u2, u3, hx => by
  have h2 := he p
  match hp : enc p, h2 with
  | [a, b, c, d], _ => simp [zx, hp, hx]
 | p :: t, i + 1, h, x, u0, u1, u2, u3, hx => by
  have ih := zk3 he t i (by simpa using h) x u0 u1 u2 u3 hx;have h2 := he p
  match hp : enc p, h2 with
  | [a, b, c, d], _ =>
   have e : ∀ S : List α, zx enc (p :: S) = a :: b :: c :: d :: zx enc S := by intro S; simp [zx, hp]
   rw [List.set_cons_succ, e, e, show (i + 1) * 4 = i * 4 + 1 + 1 + 1 + 1 by omega];simp only [List.set_cons_succ]
   rw [ih]
def zi (size : Nat) (enc : α → List Value) (w : World) (a : Option Addr) (xs : List α) : Prop :=
 xs = [] ∨ ∃ b o, a = some ⟨b, o, U⟩ ∧ b < w.heap.size ∧ ∀ i (h : i < xs.length) j u, (enc xs[i])[j]? = some u → w.cell? ⟨b, o + i * size + j, U⟩ = some u
theorem zi.below {size : Nat} {enc : α → List Value} {w w' : World} {a : Option Addr} {xs : List α} (h : zi size enc w a xs) (hb : Z w.heap.size w w') : zi size enc w' a xs := by
 rcases h with rfl | ⟨b, o, rfl, hlt, hc⟩
 · exact Or.inl rfl
 · refine Or.inr ⟨b, o, rfl, kad hlt hb.size, fun i hi j u hu => ?_⟩
  obtain ⟨hcc, _⟩ := zc1 hb;exact (hcc _ _ hlt).trans (hc i hi j u hu)
theorem zi.take {size : Nat} {enc : α → List Value} {w : World} {a : Option Addr} {xs : List α} (h : zi size enc w a xs) (k : Nat) : zi size enc w a (xs.take k) := by
 rcases h with rfl | ⟨b, o, rfl, hlt, hc⟩
 · exact Or.inl (by simp)
 · refine Or.inr ⟨b, o, rfl, hlt, fun i hi j u hu => ?_⟩
  have hi' : i < xs.length := by simp at hi; omega
  exact hc i hi' j u (by simpa using hu)
theorem zi.src {size : Nat} {enc : α → List Value} (he : ∀ x, (enc x).length = size) (h0 : 0 < size) {w : World} {a : Option Addr} {xs : List α} (h : zi size enc w a xs) : SrcAt w a xs.length size (zx enc xs) := by
 refine ⟨zdh he xs, ?_⟩;rcases h with rfl | ⟨b, o, rfl, hlt, hc⟩
 · exact Or.inl rfl
 · refine Or.inr ⟨_, rfl, fun j u hj => ?_⟩
  have hadd : (⟨b, o, U⟩ : Addr).add j = ⟨b, o + j, U⟩ := by unfold Addr.add; split <;> simp_all
  rw [hadd]
  have hlt : j < xs.length * size := by
   rcases kab j (xs.length * size) with h' | h'
   · exact h'
   · rw [kah (by rw [zdh he]; exact h')] at hj; cases hj
  have hi := Nat.div_lt_of_lt_mul (by rw [Nat.mul_comm]; exact hlt);have hm : j = j / size * size + j % size := by rw [Nat.mul_comm]; exact (Nat.div_add_mod j size).symm
  have hms : j % size < size := Nat.mod_lt _ h0;rw [hm, zg7 he xs _ hi _ hms] at hj;have := hc _ hi _ u hj;rw [Nat.add_assoc, ← hm] at this;exact this
theorem zi.one {size : Nat} {enc : α → List Value} {w : World} {B : Nat} {x : α} {cs : Array Value} {t : TypeId} (h : Blk w B cs t) (hx : cs.toList = enc x) : zi size enc w (some ⟨B, 0, U⟩) [x] := by
 refine Or.inr ⟨B, 0, rfl, h.lt, fun i hi j u hu => ?_⟩;have h0 : i = 0 := by simpa using hi
 subst h0;simp only [Nat.zero_mul, Nat.zero_add]
 rw [h.cell, ← Array.getElem?_toList, hx];exact hu
def za (e : TypeId) (size : Nat) (enc : α → List Value) (w : World) (base : Nat) (v : Value) (xs : List α) : Prop := w.ownsRow base e size v xs.length (zx enc xs)
section
variable {e : TypeId} {size : Nat} {enc : α → List Value} {w w' : World} {base : Nat} {v : Value} {xs : List α}
theorem za.below (h : za e size enc w base v xs) {B : Nat} (hb : Z B w w') (hB : w.heap.size ≤ B) : za e size enc w' base v xs := zhb h hb hB
theorem za.nil (w : World) (base : Nat) : za e size enc w base (G U 0 0) [] := World.ownsRow_nil _ _ _ _
theorem za.row (he : ∀ x, (enc x).length = size) (h : za e size enc w base v xs) : ∃ a cap, v = G a xs.length cap ∧ zi size enc w a xs ∧ xs.length ≤ cap ∧ cap ≤ maxLen := by
 rcases h.2 with ⟨hv, h0⟩ | ⟨g, cap, cur, hv, hg, hh, hcap, hmx, hsz, htake⟩
 · exact ⟨U, 0, by rw [hv, h0], Or.inl (kag h0), by omega, Nat.zero_le _⟩
 · have hh' := h
  unfold za at hh'
  rw [hv] at hh';refine ⟨_, cap, hv, Or.inr ⟨g, 0, rfl, ?_, fun i hi j u hu => ?_⟩, hcap, hmx⟩
  · rcases kab g w.heap.size with h' | h'
   · exact h'
   · rw [kaf h'] at hh; cases hh
  · have hj : j < size := by
    rcases kab j size with h' | h'
    · exact h'
    · rw [kah (by rw [he]; exact h')] at hu; cases hu
   rw [Nat.zero_add, hh'.cellAt _ ?_, zg7 he xs i hi j hj, hu];have h3 : (i + 1) * size ≤ xs.length * size := Nat.mul_le_mul_right _ hi;rw [Nat.add_mul] at h3;omega
theorem za.blk (h : za e size enc w base v xs) {g : Nat} (hg : v.ownBlock = some g) : base ≤ g ∧ ∃ cs, Blk w g cs e := by
 rcases h.2 with ⟨hv, h0⟩ | ⟨g', cap, cur, hv, hg', hh, _⟩
 · rw [hv] at hg; cases hg
 · rw [hv] at hg; cases hg; exact ⟨hg', cur, hh⟩
theorem za.kept (h : za e size enc w base v xs) {row : Option Nat} (hg : w.grownBy w' row) (hne : v.ownBlock = U ∨ v.ownBlock ≠ row) : za e size enc w' base v xs := World.ownsRow.kept h hg hne
theorem za.keptT (h : za e size enc w base v xs) {row : Option Nat} (hg : w.grownBy w' row) (hne : ∀ k, row = some k → ∃ cs t, Blk w k cs t ∧ t ≠ e) : za e size enc w' base v xs := by
 refine h.kept hg ?_
 cases hv : v.ownBlock with
 | none => exact Or.inl rfl
 | some g =>
  refine Or.inr fun hr => ?_
  obtain ⟨cs, t, hb, hte⟩ := hne g hr.symm;obtain ⟨_, cs', hb'⟩ := h.blk hv;unfold Blk at hb hb'
  rw [hb] at hb';injection hb' with hb'
  injection hb' with _ q _
  exact hte q
theorem za.setOther (h : za e size enc w base v xs) {a : Addr} {cs : Array Value} {t : TypeId} (hb : Blk w a.block cs t) (ht : t ≠ e) (u : Value) : za e size enc (r w a u) base v xs := by
 refine ownsRow_setCell_other h (fun hv => ?_) u;obtain ⟨_, cs', hb'⟩ := h.blk hv;unfold Blk at hb hb'
 rw [hb] at hb';injection hb' with hb'
 injection hb' with _ q _
 exact ht q
theorem za.mono (h : za e size enc w base v xs) {base' : Nat} (hb : base' ≤ base) : za e size enc w base' v xs := World.ownsRow.mono h hb
theorem za.cut {g cap n : Nat} {ys : List α} (he : ∀ x, (enc x).length = size) (h : za e size enc w base (G (some ⟨g, 0, U⟩) n cap) (xs ++ ys)) {m : Nat} (hm : m = xs.length) : za e size enc w base (G (some ⟨g, 0, U⟩) m cap) xs := by
 subst hm;rcases h.2 with ⟨hv, h0⟩ | ⟨g', cap', cur, hv, hg, hh, hcap, hmx, hsz, htake⟩
 · cases hv
 · cases hv
  refine ⟨zdh he xs, Or.inr ⟨g, cap, cur, rfl, hg, hh, by rw [List.length_append] at hcap; omega, hmx, hsz, ?_⟩⟩;have h3 : (cur.toList.take ((xs ++ ys).length * size)).take (xs.length * size) = (zx enc (xs ++ ys)).take (xs.length * size) := by rw [htake]
  rw [List.take_take, Nat.min_eq_left (Nat.mul_le_mul_right _ (by simp))] at h3;rw [h3, ze9, ← zdh he xs];exact List.take_left
theorem za.setFar {g cap n j : Nat} (he : ∀ x, (enc x).length = size) (h : za e size enc w base (G (some ⟨g, 0, U⟩) n cap) xs) (hn : n = xs.length) (hj : xs.length * size ≤ j) (u : Value) : za e size enc (r w ⟨g, j, U⟩ u) base (G (some ⟨g, 0, U⟩) n cap) xs := by
 subst hn;have := (World.ownsRow.stored h j u).1;rw [List.set_eq_of_length_le (by rw [zdh he]; exact hj)] at this;exact this
theorem za.setCells {g cap n : Nat} (he : ∀ x, (enc x).length = size) (hn : n = xs.length) : ∀ (vs : List Value) (j : Nat) (w : World), za e size enc w base (G (some ⟨g, 0, U⟩) n cap) xs → xs.length * size ≤ j → za e size enc (w.setCells g j vs) base (G (some ⟨g, 0, U⟩) n cap) xs
 | [], _, _, h, _ => h
 | u :: jj, j, w, h, hj => by
  rw [World.setCells];exact za.setCells he hn jj (j + 1) _ (h.setFar he hn hj u) (by omega)
theorem za.put2 {g cap n i : Nat} (he : ∀ x, (enc x).length = 2) (h : za e 2 enc w base (G (some ⟨g, 0, U⟩) n cap) xs) (hn : n = xs.length) (hi : i < xs.length) {x : α} {u0 u1 : Value} (hx : enc x = [u0, u1]) :
  za e 2 enc (r (r w ⟨g, i * 2, U⟩ u0) ⟨g, i * 2 + 1, U⟩ u1) base (G (some ⟨g, 0, U⟩) n cap) (xs.set i x) := by
 subst hn;have h1 := (World.ownsRow.stored h (i * 2) u0).1;have h2 := (World.ownsRow.stored h1 (i * 2 + 1) u1).1;unfold za
 rw [zlu he xs i hi x u0 u1 hx] at h2;simpa using h2
theorem za.put4 {g cap n i : Nat} (he : ∀ x, (enc x).length = 4) (h : za e 4 enc w base (G (some ⟨g, 0, U⟩) n cap) xs) (hn : n = xs.length) (hi : i < xs.length) {x : α} {u0 u1 u2 u3 : Value} (hx : enc x = [u0, u1, u2, u3]) :
  za e 4 enc (r (r (r (r w ⟨g, i * 4, U⟩ u0) ⟨g, i * 4 + 1, U⟩ u1) ⟨g, i * 4 + 2, U⟩ u2) ⟨g, i * 4 + 3, U⟩ u3) base (G (some ⟨g, 0, U⟩) n cap) (xs.set i x) := by
 subst hn;have h1 := (World.ownsRow.stored h (i * 4) u0).1;have h2 := (World.ownsRow.stored h1 (i * 4 + 1) u1).1;have h3 := (World.ownsRow.stored h2 (i * 4 + 2) u2).1;have h4 := (World.ownsRow.stored h3 (i * 4 + 3) u3).1;unfold za
 rw [zk3 he xs i hi x u0 u1 u2 u3 hx] at h4;simpa using h4
end
theorem zbi {enc : α → List Value} {size bytes : Nat} {e t : TypeId} {z : Value} (he : ∀ x, (enc x).length = size) (h1 : ∀ x, ∀ u ∈ enc x, u.oneCell' = true) (ht : kaa.underlying t = some (G e))
  (hinfo : (kaa.info? e).map (fun i => (i.zero, i.size, i.bytes)) = some (some z, size, bytes)) (hzs : z.cells.size = size) (h0 : 0 < size)
  {ops : Array Oper} {rest : List Oper} {o : Oper} {a : Act} {zZ : Exit → Act → World → Prop} (w : World) (hgd : o.guard = U) (s x : Operand)
  (ho : o.op = .call { callee := .builtin .append, args := #[s, x], argTypes := #[t, t] })
  (base : Nat) (v : Value) (xs : List α) (hs : a.eval s = v) (hown : za e size enc w base v xs) (ad : Option Addr) (m c : Nat) (ys : List α) (hx : a.eval x = G ad m c) (hm : m = ys.length) (hsrc : zi size enc w ad ys)
  (hml : xs.length + ys.length ≤ maxLen) (hl : (xs.length + ys.length) * bytes ≤ 140737488355328) (hbase : base ≤ w.heap.size)
  (h : ∀ a' n' c' w', za e size enc w' base (G a' n' c') (xs ++ ys) → n' = xs.length + ys.length → w.grownBy w' v.ownBlock → (kac (G a' n' c') = v.ownBlock ∨ kac (G a' n' c') = some w.heap.size) → wpList kaa ops zZ rest (a.put o.dst (G a' n' c')) w') : wpList kaa ops zZ (o :: rest) a w := by
 subst hm;obtain ⟨i0, hi, hz0, hz1, hz2⟩ := info_parts hinfo;refine zqt w hgd s x t ho base e i0 _ size bytes ht hi hz0 hz1 hz2 hzs h0 v xs.length (zx enc xs) hs hown ad ys.length c (zx enc ys) hx (hsrc.src he h0) (zhq h1 ys) hml hl hbase ?_;intro v' w' g1 g2 g3
 have hO : za e size enc w' base v' (xs ++ ys) := by
  unfold za
  rw [ze9, List.length_append];exact g1
 obtain ⟨a', c', hv, _⟩ := hO.row he;rw [List.length_append] at hv;subst hv;exact h a' _ c' w' hO rfl g2 g3
theorem zip {enc : α → List Value} {size bytes : Nat} {e t : TypeId} {z : Value} (he : ∀ x, (enc x).length = size) (h1 : ∀ x, ∀ u ∈ enc x, u.oneCell' = true) (ht : kaa.underlying t = some (G e))
  (hinfo : (kaa.info? e).map (fun i => (i.zero, i.size, i.bytes)) = some (some z, size, bytes)) (hzs : z.cells.size = size) (h0 : 0 < size) (hby : bytes ≤ 1000)
  {ops : Array Oper} {rest : List Oper} {o : Oper} {a : Act} {zZ : Exit → Act → World → Prop} (w : World) (hgd : o.guard = U) (s x : Operand)
  (ho : o.op = .call { callee := .builtin .append, args := #[s, x], argTypes := #[t, t] })
  (base : Nat) (v : Value) (xs : List α) (hs : a.eval s = v) (hown : za e size enc w base v xs) (ad : Option Addr) (m c : Nat) (ys : List α) (hx : a.eval x = G ad m c) (hm : m = ys.length) (hsrc : zi size enc w ad ys)
  (hl : xs.length + ys.length ≤ 1000000) (hbase : base ≤ w.heap.size)
  (h : ∀ a' n' c' w', za e size enc w' base (G a' n' c') (xs ++ ys) → n' = xs.length + ys.length → w.grownBy w' v.ownBlock → (kac (G a' n' c') = v.ownBlock ∨ kac (G a' n' c') = some w.heap.size) → wpList kaa ops zZ rest (a.put o.dst (G a' n' c')) w') : wpList kaa ops zZ (o :: rest) a w := by
 exact zbi he h1 ht hinfo hzs h0 w hgd s x ho base v xs hs hown ad m c ys hx hm hsrc (by unfold maxLen; omega) (Nat.le_trans (Nat.mul_le_mul hl hby) (by decide)) hbase h
theorem zo9 {enc : α → List Value} {size bytes : Nat} {e t : TypeId} {z : Value} (he : ∀ x, (enc x).length = size) (h1 : ∀ x, ∀ u ∈ enc x, u.oneCell' = true) (ht : kaa.underlying t = some (G e))
  (hinfo : (kaa.info? e).map (fun i => (i.zero, i.size, i.bytes)) = some (some z, size, bytes)) (hzs : z.cells.size = size) (h0 : 0 < size)
  {ops : Array Oper} {o : Oper} {a : Act} {K : Act → World → Prop} {zZ : Exit → Act → World → Prop} {zQ : Prop} (w : World) (hw : Region.wanted o (yielded ops a.tmps) = true) (s x : Operand)
  (ho : o.op = .call { callee := .builtin .append, args := #[s, x], argTypes := #[t, t] })
  (base : Nat) (v : Value) (xs : List α) (hs : a.eval s = v) (hown : za e size enc w base v xs) (ad : Option Addr) (m c : Nat) (ys : List α) (hx : a.eval x = G ad m c) (hm : m = ys.length) (hsrc : zi size enc w ad ys)
  (hml : xs.length + ys.length ≤ maxLen) (hl : (xs.length + ys.length) * bytes ≤ 140737488355328) (hbase : base ≤ w.heap.size)
  (h : ∀ a' n' c' w', za e size enc w' base (G a' n' c') (xs ++ ys) → n' = xs.length + ys.length → w.grownBy w' v.ownBlock → (kac (G a' n' c') = v.ownBlock ∨ kac (G a' n' c') = some w.heap.size) → K (a.put o.dst (G a' n' c')) w') : if Region.wanted o (yielded ops a.tmps) = true then Oper.wp kaa o a w K zZ else zQ := by
 subst hm;obtain ⟨i0, hi, hz0, hz1, hz2⟩ := info_parts hinfo;rw [if_pos hw];obtain ⟨v', w', hr, g1, g2, g3⟩ := zj4 (P := kaa) w base t o.type e i0 _ size bytes ht hi hz0 hz1 hz2 hzs h0 v xs.length (zx enc xs) hown ad ys.length c (zx enc ys) (hsrc.src he h0) (zhq h1 ys) hml hl hbase
 have hO : za e size enc w' base v' (xs ++ ys) := by
  unfold za
  rw [ze9, List.length_append];exact g1
 obtain ⟨a', c', hv, _⟩ := hO.row he;rw [List.length_append] at hv;subst hv;unfold Oper.wp execOp
 simp only [ho, resolve, invoke, builtin, Sem.run_bind, Sem.run_pure, Result.andThen_ok, List.map_toArray, List.map_cons, List.map_nil, hs, hx, hr]
 exact h a' _ c' w' hO rfl g2 g3
theorem zeq {enc : α → List Value} {size bytes : Nat} {e t : TypeId} {z : Value} (he : ∀ x, (enc x).length = size) (h1 : ∀ x, ∀ u ∈ enc x, u.oneCell' = true) (ht : kaa.underlying t = some (G e))
  (hinfo : (kaa.info? e).map (fun i => (i.zero, i.size, i.bytes)) = some (some z, size, bytes)) (hzs : z.cells.size = size) (h0 : 0 < size)
  {ops : Array Oper} {o : Oper} {a : Act} {K : Act → World → Prop} {zZ : Exit → Act → World → Prop} {zQ : Prop} (w : World) (hgd : o.guard = U) (s x : Operand)
  (ho : o.op = .call { callee := .builtin .append, args := #[s, x], argTypes := #[t, t] })
  (base : Nat) (v : Value) (xs : List α) (hs : a.eval s = v) (hown : za e size enc w base v xs) (ad : Option Addr) (m c : Nat) (ys : List α) (hx : a.eval x = G ad m c) (hm : m = ys.length) (hsrc : zi size enc w ad ys)
  (hml : xs.length + ys.length ≤ maxLen) (hl : (xs.length + ys.length) * bytes ≤ 140737488355328) (hbase : base ≤ w.heap.size)
  (h : ∀ a' n' c' w', za e size enc w' base (G a' n' c') (xs ++ ys) → n' = xs.length + ys.length → w.grownBy w' v.ownBlock → (kac (G a' n' c') = v.ownBlock ∨ kac (G a' n' c') = some w.heap.size) → K (a.put o.dst (G a' n' c')) w') : if Region.wanted o (yielded ops a.tmps) = true then Oper.wp kaa o a w K zZ else zQ := by
 exact zo9 he h1 ht hinfo hzs h0 w (by simp [Region.wanted, hgd]) s x ho base v xs hs hown ad m c ys hx hm hsrc hml hl hbase h
end
def zg (t : TypeId) (w w' : World) : Prop := ∀ b cs, Blk w b cs t → Blk w' b cs t
theorem zg.refl (t : TypeId) (w : World) : zg t w w := fun _ _ h => h
theorem zg.trans {t : TypeId} {a b c : World} (h : zg t a b) (k : zg t b c) : zg t a c := fun _ _ x => k _ _ (h _ _ x)
theorem zg.below {t : TypeId} {w w' : World} {B : Nat} (h : Z B w w') (hB : w.heap.size ≤ B) : zg t w w' := fun _ _ x => x.below h (kad x.lt hB)
theorem zg.alloc (t : TypeId) (w : World) (o : Obj) : zg t w (w.alloc o) := fun _ _ x => x.alloc o
theorem zg.setCell {t t' : TypeId} {w : World} {a : Addr} {cs : Array Value} (hb : Blk w a.block cs t') (ht : t' ≠ t) (u : Value) : zg t w (r w a u) := fun b cs' x => x.setOther (fun e => by
 subst e;unfold Blk at hb x
 rw [hb] at x;injection x with x
 injection x with _ q _
 exact ht q) u
theorem zg.grown {t : TypeId} {w w' : World} {row : Option Nat} (hg : w.grownBy w' row) (hr : ∀ k, row = some k → ∃ cs t', Blk w k cs t' ∧ t' ≠ t) : zg t w w' := fun b cs x => by
 unfold Blk
 rw [hg.block b x.lt (fun e => ?_)]
 · exact x
 · obtain ⟨cs', t', hb, hne⟩ := hr b e.symm
  unfold Blk at hb x
  rw [hb] at x;injection x with x
  injection x with _ q _
  exact hne q
theorem za.grownT {α : Type} {e t : TypeId} {size : Nat} {enc : α → List Value} {w : World} {base : Nat} {v : Value} {xs : List α} (h : za e size enc w base v xs) (hne : e ≠ t) : ∀ k, v.ownBlock = some k → ∃ cs t', Blk w k cs t' ∧ t' ≠ t := fun k hk => by
 obtain ⟨_, cs, hb⟩ := h.blk hk;exact ⟨cs, e, hb, hne⟩
def zai (base : Nat) (w : World) (a : Option Addr) (l : List P3) : Prop :=
 l = [] ∨ ∃ b o cs, a = some ⟨b, o, U⟩ ∧ base ≤ b ∧ Blk w b cs 90 ∧ ∀ i (h : i < l.length), cs[o + i * 3]? = some (E J l[i].1) ∧ cs[o + i * 3 + 1]? = some (E J l[i].2.1) ∧ cs[o + i * 3 + 2]? = some (E J l[i].2.2)
theorem zai.mono {base base' : Nat} {w : World} {a : Option Addr} {l : List P3} (h : zai base w a l) (hb : base' ≤ base) : zai base' w a l := by
 rcases h with h | ⟨b, o, cs, ha, hB, hb', hx⟩
 · exact Or.inl h
 · exact Or.inr ⟨b, o, cs, ha, Nat.le_trans hb hB, hb', hx⟩
theorem zai.calm {base : Nat} {w w' : World} {a : Option Addr} {l : List P3} (h : zai base w a l) (hc : zg 90 w w') : zai base w' a l := by
 rcases h with h | ⟨b, o, cs, ha, hB, hb, hx⟩
 · exact Or.inl h
 · exact Or.inr ⟨b, o, cs, ha, hB, hc _ _ hb, hx⟩
theorem zai.at {base : Nat} {w : World} {a : Option Addr} {l : List P3} (h : zai base w a l) : zag w a l := by
 rcases h with h | ⟨b, o, cs, ha, hB, hb, hx⟩
 · exact Or.inl h
 · refine Or.inr ⟨b, o, ha, hb.lt, fun i hi => ?_⟩
  obtain ⟨h0, h1, h2⟩ := hx i hi;exact ⟨(hb.cell _).trans h0, (hb.cell _).trans h1, (hb.cell _).trans h2⟩
theorem zby.typed {w : World} {base : Nat} {v : Value} {l : List P3} (h : zby w base v l) : ∃ a cap, v = G a l.length cap ∧ zai base w a l ∧ l.length ≤ cap ∧ cap ≤ maxLen := by
 rcases h.2 with ⟨hv, h0⟩ | ⟨g, cap, cur, hv, hg, hh, hcap, hmx, hsz, htake⟩
 · exact ⟨U, 0, by rw [hv, h0], Or.inl (kag h0), by omega, Nat.zero_le _⟩
 · refine ⟨_, cap, hv, Or.inr ⟨g, 0, cur, rfl, hg, hh, fun i hi => ?_⟩, hcap, hmx⟩
  have key : ∀ (j : Nat) (u : Value), (zd7 l)[j]? = some u → cur[j]? = some u := by
   intro j u hj;rw [← htake] at hj
   have hlt : j < l.length * 3 := by
    rcases kab j (l.length * 3) with h' | h'
    · exact h'
    · rw [kah (by simp; omega)] at hj; cases hj
   rw [List.getElem?_take_of_lt hlt] at hj;simpa using hj
  obtain ⟨e0, e1, e2⟩ := zjt l i hi;rw [Nat.zero_add];exact ⟨key _ _ e0, key _ _ e1, key _ _ e2⟩
theorem Blk.keptNe {w w' : World} {b : Nat} {cs : Array Value} {t : TypeId} {row : Option Nat} (hg : w.grownBy w' row) (h : Blk w b cs t) (hne : row ≠ some b) : Blk w' b cs t := by
 unfold Blk
 rw [hg.block b h.lt (fun e => hne e.symm)];exact h
theorem za.made0 {α : Type} {e : TypeId} {size : Nat} {enc : α → List Value} {w : World} {b base : Nat} (h : Blk w b #[] e) (hb : base ≤ b) : za e size enc w base (G (some ⟨b, 0, U⟩) 0 0) [] :=
 ⟨by simp [zx], Or.inr ⟨b, 0, #[], rfl, hb, h, Nat.le_refl _, Nat.zero_le _, by simp, by simp [zx]⟩⟩
theorem zh8 (w : World) (t e ty : TypeId) (z : Value) (ht : kaa.underlying t = some (G e)) (hv : ∀ w, (zeroValue e).run kaa w = .ok z w) (h1 : ∀ u ∈ z.cells, u.oneCell' = true) (b o n c : Nat) (hn : 0 < n)
  (hc : ∀ j, j < n * z.cells.size → (w.cell? ⟨b, o + j, U⟩).isSome = true) (hf : ∀ j, j < n * z.cells.size → w.frozen? ⟨b, o + j, U⟩ = false) :
  ∃ vs, (Builtin.clear_ #[t] ty #[G (some ⟨b, o, U⟩) n c]).run kaa w = .ok (.tuple #[]) (w.setCells b o vs) := by
 have hzl : (Builtin.zeroCells z.cells n).toList.length = n * z.cells.size := by simp [Builtin.zeroCells]
 have hst := run_storeCells_cells (P := kaa) b o (Builtin.zeroCells z.cells n).toList 0 w (by rw [hzl]; simpa using hc) (by rw [hzl]; simpa using hf) (by
  intro v hv';simp only [Builtin.zeroCells, Array.toList_map, List.mem_map] at hv'
  obtain ⟨i, hi, rfl⟩ := hv'
  have hpos : 0 < z.cells.size := by
   rcases Nat.eq_zero_or_pos z.cells.size with h | h
   · rw [h] at hi; simp at hi
   · exact h
  have hlt := Nat.mod_lt i hpos;have e : z.cells[i % z.cells.size]! = z.cells[i % z.cells.size] := getElem!_pos z.cells (i % z.cells.size) hlt;rw [e]
  exact h1 _ (Array.getElem_mem hlt))
 simp only [Nat.add_zero] at hst
 obtain ⟨m, rfl⟩ : ∃ m, n = m + 1 := ⟨n - 1, by omega⟩;exact ⟨(Builtin.zeroCells z.cells (m + 1)).toList, by simp [Builtin.clear_, run_underlying ht, hv, hst]⟩
end Go.Proofs.YtpcnlifmkhagkaaGreat
