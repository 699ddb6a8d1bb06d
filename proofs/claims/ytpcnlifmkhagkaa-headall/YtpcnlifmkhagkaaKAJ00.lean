import Derived.Test.YtpcnlifmkhagkaaProg
import Derived.WalkKit
import Derived.WalkSpells
import Derived.WalkLawsBesides
import Derived.BigQuiet
import Derived.Deep.RegionHeld3
import Derived.Deep.DrawnRows
import Derived.Deep.AppendLies
import Derived.WalkSmall
import Derived.Deep.AppendSrc
import Derived.Laws.Rows
set_option maxRecDepth 20000
set_option maxHeartbeats 20000000
namespace Go.Proofs.Ytpcnlifmkhagkaa
open Go.RowKit
open Go.Value renaming slice → G, int → E
open Go.IntKind renaming i64 → J
open _root_.Option renaming none → U
open Go.Obj renaming cells → T
open Go.RowKit renaming Hid → Q, Below → Z
open Go.World renaming setCell → r
attribute [local go_sem ↓] Go.wp_at_zero Go.wp_at_succ
abbrev P3 := Int × Int × Int
abbrev S4 := Int × Int × Int × Int
def zb6 (k : Int) : Bool := decide (0 ≤ k ∧ k < 4)
def inB (p : P3) (H : Int) : Bool := decide (0 ≤ p.1 ∧ p.1 < H ∧ 0 ≤ p.2.1 ∧ p.2.1 < 4 ∧ -1048576 ≤ p.2.2 ∧ p.2.2 ≤ 1048576)
def zex (p q : P3) : Bool := decide (p.1 = q.1 ∧ p.2.1 = q.2.1)
def hasB (q : P3) (l : List P3) : Bool := l.any fun p => zex p q
def zdp (H : Int) : List P3 → List P3 → Int
 | _, [] => 0
 | seen, p :: t => if inB p H then (if hasB p seen then 4 else zdp H (seen ++ [p]) t) else 3
def zay (l : List P3) (H : Int) : Int := if l.length < 1 ∨ 4 < l.length then 5 else zdp H [] l
def za7 (s : S4) (k : Int) : Int := if k = 0 then s.1 else if k = 1 then s.2.1 else if k = 2 then s.2.2.1 else s.2.2.2
def zdq (s : S4) (k n : Int) : S4 :=
 if k = 0 then (s.1 + n, s.2.1, s.2.2.1, s.2.2.2) else if k = 1 then (s.1, s.2.1 + n, s.2.2.1, s.2.2.2)
 else if k = 2 then (s.1, s.2.1, s.2.2.1 + n, s.2.2.2) else (s.1, s.2.1, s.2.2.1, s.2.2.2 + n)
def do1 (s : S4) (p : P3) : S4 := if zb6 p.2.1 then zdq s p.2.1 p.2.2 else s
def doB (s : S4) (l : List P3) : S4 := l.foldl do1 s
def zcp (s : S4) : List P3 → Int
 | [] => 0
 | p :: t => if zb6 p.2.1 then (if za7 s p.2.1 + p.2.2 < 0 then 11 else if 1048576 < za7 s p.2.1 + p.2.2 then 4 else zcp s t) else zcp s t
def zf2 (s : S4) : Bool := decide ((0 ≤ s.1 ∧ s.1 ≤ 1048576) ∧ (0 ≤ s.2.1 ∧ s.2.1 ≤ 1048576) ∧ (0 ≤ s.2.2.1 ∧ s.2.2.1 ≤ 1048576) ∧ (0 ≤ s.2.2.2 ∧ s.2.2.2 ≤ 1048576))
def zbl (B : Int) (s : S4) : Prop := (-B ≤ s.1 ∧ s.1 ≤ B) ∧ (-B ≤ s.2.1 ∧ s.2.1 ≤ B) ∧ (-B ≤ s.2.2.1 ∧ s.2.2.1 ≤ B) ∧ (-B ≤ s.2.2.2 ∧ s.2.2.2 ≤ B)
def zd7 (l : List P3) : Prop := ∀ p ∈ l, -1048576 ≤ p.2.2 ∧ p.2.2 ≤ 1048576
theorem zk8 {l : List P3} {k : Nat} (h : k < l.length) : l.drop k = l[k] :: l.drop (k + 1) := List.drop_eq_getElem_cons h
theorem zax {α : Type} {l : List α} {k : Nat} (h : k < l.length) : l.take (k + 1) = l.take k ++ [l[k]] := List.take_succ_eq_append_getElem h
theorem zl6 (q : P3) (l : List P3) (p : P3) : hasB q (l ++ [p]) = (hasB q l || zex p q) := by simp [hasB]
theorem zhx (s : S4) (l : List P3) (p : P3) : doB s (l ++ [p]) = do1 (doB s l) p := by simp [doB]
theorem zob {B : Int} {s : S4} (h : zbl B s) {p : P3} (hp : -1048576 ≤ p.2.2 ∧ p.2.2 ≤ 1048576) : zbl (B + 1048576) (do1 s p) := by
 obtain ⟨⟨a1, a2⟩, ⟨b1, b2⟩, ⟨c1, c2⟩, ⟨d1, d2⟩⟩ := h;obtain ⟨p1, p2⟩ := hp;unfold do1 zdq
 repeat' split
 all_goals (refine ⟨⟨?_, ?_⟩, ⟨?_, ?_⟩, ⟨?_, ?_⟩, ⟨?_, ?_⟩⟩ <;> (try simp only) <;> omega)
theorem zgv {B C : Int} {s : S4} (h : zbl B s) (hc : B ≤ C) : zbl C s := by
 obtain ⟨⟨a1, a2⟩, ⟨b1, b2⟩, ⟨c1, c2⟩, ⟨d1, d2⟩⟩ := h;exact ⟨⟨by omega, by omega⟩, ⟨by omega, by omega⟩, ⟨by omega, by omega⟩, ⟨by omega, by omega⟩⟩
theorem zj7 {B : Int} {s : S4} (h : zbl B s) : ∀ {l : List P3}, zd7 l → zbl (B + l.length * 1048576) (doB s l) := by
 intro l
 induction l generalizing s B with
 | nil => intro _; simpa [doB] using h
 | cons p t ih =>
  intro hs;have h1 := zob h (hs p (by simp));have h2 := ih h1 (fun q hq => hs q (by simp [hq]));exact zgv h2 (by simp only [List.length_cons]; omega)
theorem zna {l : List P3} (h : zd7 l) (k : Nat) : zd7 (l.take k) := fun p hp => h p (List.mem_of_mem_take hp)
theorem zhb {l : List P3} (h : zd7 l) {k : Nat} (hk : k < l.length) : -1048576 ≤ l[k].2.2 ∧ l[k].2.2 ≤ 1048576 := h _ (List.getElem_mem hk)
theorem fits_step {s : S4} {l : List P3} {k : Nat} (h : k < l.length) : zcp s (l.drop k) = if zb6 l[k].2.1 then (if za7 s l[k].2.1 + l[k].2.2 < 0 then 11 else if 1048576 < za7 s l[k].2.1 + l[k].2.2 then 4 else zcp s (l.drop (k + 1))) else zcp s (l.drop (k + 1)) := by
 rw [zk8 h]; simp only [zcp]
theorem zp1 {H : Int} {l : List P3} {k : Nat} (h : k < l.length) : zdp H (l.take k) (l.drop k) = if inB l[k] H then (if hasB l[k] (l.take k) then 4 else zdp H (l.take (k + 1)) (l.drop (k + 1))) else 3 := by
 rw [zk8 h]; simp only [zdp]; rw [zax h]
theorem zf3 {a b : Bool} (h : a = b) : Ending.returned (.bool a) = .returned (.bool b) := by rw [h]
theorem zb9 {k : IntKind} {a b : Int} (h : a = b) : Ending.returned (E k a) = .returned (E k b) := by rw [h]
theorem zA {a : Prop} (x : a) : Q a := x
theorem zB {a b : Prop} (x0 : a) (x1 : b) : Q (a ∧ b) := ⟨x0, x1⟩
theorem zC {a b c : Prop} (x0 : a) (x1 : b) (x2 : c) : Q (a ∧ b ∧ c) := ⟨x0, x1, x2⟩
theorem zD {a b c d : Prop} (x0 : a) (x1 : b) (x2 : c) (x3 : d) : Q (a ∧ b ∧ c ∧ d) := ⟨x0, x1, x2, x3⟩
theorem zE {a b c d e : Prop} (x0 : a) (x1 : b) (x2 : c) (x3 : d) (x4 : e) : Q (a ∧ b ∧ c ∧ d ∧ e) := ⟨x0, x1, x2, x3, x4⟩
theorem zF {a b c d e f : Prop} (x0 : a) (x1 : b) (x2 : c) (x3 : d) (x4 : e) (x5 : f) : Q (a ∧ b ∧ c ∧ d ∧ e ∧ f) := ⟨x0, x1, x2, x3, x4, x5⟩
theorem zG {a b c d e f g : Prop} (x0 : a) (x1 : b) (x2 : c) (x3 : d) (x4 : e) (x5 : f) (x6 : g) : Q (a ∧ b ∧ c ∧ d ∧ e ∧ f ∧ g) := ⟨x0, x1, x2, x3, x4, x5, x6⟩
theorem zi (w : World) (o : Obj) : Z w.heap.size w (w.alloc o) := (Below.refl _ _).alloc (Nat.le_refl _) _
theorem za2 (w : World) (o o' : Obj) : Z w.heap.size w ((w.alloc o).alloc o') := ((Below.refl _ _).alloc (Nat.le_refl _) _).alloc (by simp) _
theorem zcz {W w1 : World} (hb : Z W.heap.size W w1) : (∀ b o, b < W.heap.size → w1.cell? ⟨b, o, U⟩ = W.cell? ⟨b, o, U⟩) ∧ (∀ b o, b < W.heap.size → w1.frozen? ⟨b, o, U⟩ = W.frozen? ⟨b, o, U⟩) :=
 ⟨fun b o h => hb.cell (p := ⟨b, o, U⟩) h, fun b o h => hb.frozen (p := ⟨b, o, U⟩) h⟩
def zal (w : World) (a : Option Addr) (l : List P3) : Prop :=
 l = [] ∨ ∃ b o, a = some ⟨b, o, U⟩ ∧ b < w.heap.size ∧ ∀ i (h : i < l.length),
  w.cell? ⟨b, o + i * 3, U⟩ = some (E J l[i].1) ∧ w.cell? ⟨b, o + i * 3 + 1, U⟩ = some (E J l[i].2.1) ∧ w.cell? ⟨b, o + i * 3 + 2, U⟩ = some (E J l[i].2.2)
theorem zal.below {w w' : World} {a : Option Addr} {l : List P3} (h : zal w a l) (hb : Z w.heap.size w w') : zal w' a l := by
 rcases h with rfl | ⟨b, o, rfl, hlt, hc⟩
 ·exact Or.inl rfl
 ·refine Or.inr ⟨b, o, rfl, Nat.lt_of_lt_of_le hlt hb.size, fun i hi => ?_⟩
  obtain ⟨h1, h2, h3⟩ := hc i hi;obtain ⟨hcc, _⟩ := zcz hb;exact ⟨(hcc _ _ hlt).trans h1, (hcc _ _ hlt).trans h2, (hcc _ _ hlt).trans h3⟩
def zeb (l : List P3) : List Value := l.flatMap fun p => [E J p.1, E J p.2.1, E J p.2.2]
theorem zo5 (l : List P3) (p : P3) : zeb (l ++ [p]) = zeb l ++ [E J p.1, E J p.2.1, E J p.2.2] := by simp [zeb]
theorem zjl : ∀ (l : List P3) (i : Nat) (h : i < l.length), (zeb l)[i * 3]? = some (E J l[i].1) ∧ (zeb l)[i * 3 + 1]? = some (E J l[i].2.1) ∧ (zeb l)[i * 3 + 2]? = some (E J l[i].2.2)
 | p :: t, 0, _ => by simp [zeb]
 | p :: t, i + 1, h => by
  have ih := zjl t i (by simpa using h);have e : zeb (p :: t) = [E J p.1, E J p.2.1, E J p.2.2] ++ zeb t := by simp [zeb]
  rw [e];refine ⟨?_, ?_, ?_⟩
  ·rw [List.getElem?_append_right (by simp; omega)]; simpa [show (i + 1) * 3 - 3 = i * 3 by omega] using ih.1
  ·rw [List.getElem?_append_right (by simp; omega)]; simpa [show (i + 1) * 3 + 1 - 3 = i * 3 + 1 by omega] using ih.2.1
  ·rw [List.getElem?_append_right (by simp; omega)]; simpa [show (i + 1) * 3 + 2 - 3 = i * 3 + 2 by omega] using ih.2.2
def zbz (w : World) (base : Nat) (v : Value) (l : List P3) : Prop := w.ownsRow base 49 3 v l.length (zeb l)
theorem zhf {w w' : World} {base : Nat} {e : TypeId} {size : Nat} {v : Value} {n : Nat} {xs : List Value} (h : w.ownsRow base e size v n xs) {B : Nat} (hb : Z B w w') (hB : w.heap.size ≤ B) : w'.ownsRow base e size v n xs := by
 refine ⟨h.1, ?_⟩;rcases h.2 with h0 | ⟨g, cap, cur, hv, hg, hh, jj⟩
 ·exact Or.inl h0
 ·refine Or.inr ⟨g, cap, cur, hv, hg, ?_, jj⟩
  have hlt : g < w.heap.size := by
   rcases Nat.lt_or_ge g w.heap.size with h' | h'
   ·exact h'
   ·rw [Array.getElem?_eq_none h'] at hh; cases hh
  rw [hb.block g (by omega)]; exact hh
theorem zbz.below {w w' : World} {base : Nat} {v : Value} {l : List P3} (h : zbz w base v l) {B : Nat} (hb : Z B w w') (hB : w.heap.size ≤ B) : zbz w' base v l := zhf h hb hB
theorem zbz.parts {w : World} {base : Nat} {v : Value} {l : List P3} (h : zbz w base v l) : ∃ a cap, v = G a l.length cap ∧ zal w a l ∧ l.length ≤ cap := by
 rcases h.2 with ⟨hv, h0⟩ | ⟨g, cap, cur, hv, hg, hh, jZ, _, hsz, qJ⟩
 ·exact ⟨U, 0, by rw [hv, h0], Or.inl (List.eq_nil_of_length_eq_zero h0), by omega⟩
 ·refine ⟨_, cap, hv, Or.inr ⟨g, 0, rfl, ?_, fun i hi => ?_⟩, jZ⟩
  ·rcases Nat.lt_or_ge g w.heap.size with h' | h'
   ·exact h'
   ·rw [Array.getElem?_eq_none h'] at hh; cases hh
  ·have key : ∀ j u, (zeb l)[j]? = some u → w.cell? ⟨g, j, U⟩ = some u := by
    intro j u hj;rw [cell_of_row w g j cur _ _ hh];rw [← qJ] at hj
    have hlt : j < l.length * 3 := by
     rcases Nat.lt_or_ge j (l.length * 3) with h' | h'
     ·exact h'
     ·rw [List.getElem?_eq_none (by simp; omega)] at hj; cases hj
    rw [List.getElem?_take_of_lt hlt] at hj
    simpa using hj
   obtain ⟨e0, e1, e2⟩ := zjl l i hi;rw [Nat.zero_add];exact ⟨key _ _ e0, key _ _ e1, key _ _ e2⟩
theorem zh9 : (Try.prog.info? 49).map (fun i => (i.zero, i.size, i.bytes)) = some (some (.agg #[E J 0, E J 0, E J 0]), 3, 24) := by kernel_rfl
theorem zld {ops : Array Oper} {rest : List Oper} {o : Oper} {a : Act} {zZ : Exit → Act → World → Prop} (w : World) (hgd : o.guard = U) (s x : Operand)
  (ho : o.op = .call { callee := .builtin .append, args := #[s, x], argTypes := #[23, 23] })
  (base : Nat) (v : Value) (l : List P3) (hs : a.eval s = v) (jx : zbz w base v l) (B : Nat) (p : P3) (hx : a.eval x = G (some ⟨B, 0, U⟩) 1 1)
  (hB : w.heap[B]? = some (T #[E J p.1, E J p.2.1, E J p.2.2] 49)) (hl : l.length ≤ 1000000) (hbase : base ≤ w.heap.size)
  (h : ∀ g cap w', zbz w' base (G (some ⟨g, 0, U⟩) (l.length + 1) cap) (l ++ [p]) → w.grownBy w' v.ownBlock → (v.ownBlock = some g ∨ g = w.heap.size) → g < w'.heap.size → wpList Try.prog ops zZ rest (a.put o.dst (G (some ⟨g, 0, U⟩) (l.length + 1) cap)) w') : wpList Try.prog ops zZ (o :: rest) a w := by
 obtain ⟨i0, hi, hz0, hz1, hz2⟩ := info_parts zh9;refine wpList_append_lies w hgd s x 23 ho base 49 i0 _ 3 24 Try.underlying23 hi hz0 hz1 hz2 rfl (by decide) v l.length (zeb l) hs jx ⟨B, 0, U⟩ 1 1 [E J p.1, E J p.2.1, E J p.2.2] hx rfl (World.news_of_block hB) ?_ (by decide) (by unfold maxLen; omega) (by omega) hbase w.heap.size rfl ?_
 ·intro u hu
  simp at hu
  rcases hu with rfl | rfl | rfl <;> rfl
 ·intro g cap w' h1 h2 h3 h4
  refine h g cap w' ?_ h2 h3 h4;unfold zbz
  rw [zo5]
  simpa using h1
theorem zaq (w : World) (o o' : Obj) : ((w.alloc o).alloc o').heap[w.heap.size + 1]? = some o' := by have := heap_alloc_new (w.alloc o) o'; simpa using this
theorem zn2 (w : World) (b o : Nat) : w.setCells b o [] = w := rfl
def SrcAt (w : World) (a : Option Addr) (m size : Nat) (news : List Value) : Prop :=
 news.length = m * size ∧ (m = 0 ∨ ∃ ad, a = some ad ∧ ∀ j u, news[j]? = some u → w.cell? (ad.add j) = some u)
theorem ziw {P : Program} (w : World) (base : Nat) (t ty e : TypeId) (i : TypeInfo) (z : Value) (size bytes : Nat) (ht : P.underlying t = some (.slice e)) (hi : P.info? e = some i) (hz : i.zero = some z)
  (hsize : i.size = size) (hby : i.bytes = bytes) (hzs : z.cells.size = size) (hsz : 0 < size)
  (v : Value) (n : Nat) (xs : List Value) (jx : w.ownsRow base e size v n xs)
  (a : Option Addr) (m c : Nat) (news : List Value) (hsrc : SrcAt w a m size news) (h1 : ∀ u ∈ news, u.oneCell' = true)
  (h63 : n + m ≤ maxLen) (hbytes : (n + m) * bytes ≤ 140737488355328) (hbase : base ≤ w.heap.size) :
  ∃ v' w', (Builtin.append_ #[t, t] ty #[v, G a m c]).run P w = .ok v' w' ∧ w'.ownsRow base e size v' (n + m) (xs ++ news) ∧ w.grownBy w' v.ownBlock ∧
   (v'.ownBlock = v.ownBlock ∨ v'.ownBlock = some w.heap.size) := by
 obtain ⟨hl, hs⟩ := hsrc;rcases hs with h0 | ⟨ad, ha, hc⟩
 ·subst h0
  have hn := List.eq_nil_of_length_eq_zero (by simpa using hl);subst hn
  cases a with
  | some ad =>
   obtain ⟨v', w', hr, h2, h3, _, h5⟩ := run_append_own_at (P := P) w base t ty e i z size bytes ht hi hz hsize hby hzs hsz v n xs jx ad 0 c [] (by simp) (fun j u hj => by simp at hj) h1 h63 hbytes hbase;exact ⟨v', w', hr, h2, h3, h5⟩
  | none =>
   have hg : w.grownBy w v.ownBlock := ⟨rfl, rfl, rfl, Nat.le_refl _, fun _ _ _ => rfl⟩;refine ⟨v, w, ?_, by simpa using jx, hg, .inl rfl⟩;rcases jx.2 with ⟨hv, _⟩ | ⟨g, cap, cur, hv, _, _, jZ, _⟩
   ·subst hv
    simp [Builtin.append_, run_underlying ht, sizeOf, typeInfo, hi, Builtin.lenOf, go_sem]
   ·subst hv
    have := run_append_room_src (P := P) w t t ty e i ht hi g 0 n cap (G U 0 c) 0 [] (Src.ofNil w ht c) (by omega) (fun j hj => by simp at hj) (fun j hj => by simp at hj);rw [zn2, Nat.add_zero] at this;exact this
 ·subst ha
  obtain ⟨v', w', hr, h2, h3, _, h5⟩ := run_append_own_at (P := P) w base t ty e i z size bytes ht hi hz hsize hby hzs hsz v n xs jx ad m c news hl hc h1 h63 hbytes hbase;exact ⟨v', w', hr, h2, h3, h5⟩
theorem zpu {P : Program} {ops : Array Oper} {rest : List Oper} {o : Oper} {a : Act} {zZ : Exit → Act → World → Prop} (w : World) (hgd : o.guard = U) (s x : Operand) (t : TypeId)
  (ho : o.op = .call { callee := .builtin .append, args := #[s, x], argTypes := #[t, t] })
  (base : Nat) (e : TypeId) (i : TypeInfo) (z : Value) (size bytes : Nat) (ht : P.underlying t = some (.slice e)) (hi : P.info? e = some i) (hz : i.zero = some z)
  (hsize : i.size = size) (hby : i.bytes = bytes) (hzs : z.cells.size = size) (hsz : 0 < size)
  (v : Value) (n : Nat) (xs : List Value) (hs : a.eval s = v) (jx : w.ownsRow base e size v n xs)
  (ad : Option Addr) (m c : Nat) (news : List Value) (hx : a.eval x = G ad m c) (hsrc : SrcAt w ad m size news) (h1 : ∀ u ∈ news, u.oneCell' = true)
  (h63 : n + m ≤ maxLen) (hbytes : (n + m) * bytes ≤ 140737488355328) (hbase : base ≤ w.heap.size)
  (h : ∀ v' w', w'.ownsRow base e size v' (n + m) (xs ++ news) → w.grownBy w' v.ownBlock → (v'.ownBlock = v.ownBlock ∨ v'.ownBlock = some w.heap.size) → wpList P ops zZ rest (a.put o.dst v') w') :
  wpList P ops zZ (o :: rest) a w := by
 refine wpList_plain hgd fun K hK => ?_
 obtain ⟨v', w', hr, h2, h3, h5⟩ := ziw (P := P) w base t o.type e i z size bytes ht hi hz hsize hby hzs hsz v n xs jx ad m c news hsrc h1 h63 hbytes hbase;unfold Oper.wp execOp
 simp only [ho, resolve, invoke, builtin, Sem.run_bind, Sem.run_pure, Result.andThen_ok, List.map_toArray, List.map_cons, List.map_nil, hs, hx, hr]
 exact hK _ _ (h v' w' h2 h3 h5)
def Blk (w : World) (b : Nat) (cs : Array Value) (t : TypeId) : Prop := w.heap[b]? = some (T cs t (0, 0))
def zg (R : Nat → Prop) (w w' : World) : Prop :=
 w'.os = w.os ∧ w'.tape = w.tape ∧ w'.output = w.output ∧ w.heap.size ≤ w'.heap.size ∧ ∀ k, k < w.heap.size → ¬ R k → w'.heap[k]? = w.heap[k]?
theorem Blk.lt {w : World} {b : Nat} {cs : Array Value} {t : TypeId} (h : Blk w b cs t) : b < w.heap.size := by
 rcases Nat.lt_or_ge b w.heap.size with h' | h'
 ·exact h'
 ·unfold Blk at h; rw [Array.getElem?_eq_none h'] at h; cases h
theorem Blk.cell {w : World} {b : Nat} {cs : Array Value} {t : TypeId} (h : Blk w b cs t) (i : Nat) : w.cell? ⟨b, i, U⟩ = cs[i]? := cell_of_row w b i cs t _ h
theorem Blk.free {w : World} {b : Nat} {cs : Array Value} {t : TypeId} (h : Blk w b cs t) (i : Nat) : w.frozen? ⟨b, i, U⟩ = false := frozen_of_row w b i cs t h
theorem Blk.set {w : World} {b : Nat} {cs : Array Value} {t : TypeId} (h : Blk w b cs t) (i : Nat) (v : Value) : Blk (r w ⟨b, i, U⟩ v) b (cs.setIfInBounds i v) t := heap_setCell_same w b i cs t v h
theorem Blk.setOther {w : World} {b : Nat} {cs : Array Value} {t : TypeId} (h : Blk w b cs t) {a : Addr} (hne : b ≠ a.block) (v : Value) : Blk (r w a v) b cs t := by
 unfold Blk; rw [heap_setCell_other w a b v hne]; exact h
theorem Blk.new (w : World) (cs : Array Value) (t : TypeId) : Blk (w.alloc (T cs t)) w.heap.size cs t := heap_alloc_new w _
theorem Blk.alloc {w : World} {b : Nat} {cs : Array Value} {t : TypeId} (h : Blk w b cs t) (o : Obj) : Blk (w.alloc o) b cs t := by
 unfold Blk; rw [Below.heap_alloc w o b h.lt]; exact h
theorem Blk.below {w w' : World} {b : Nat} {cs : Array Value} {t : TypeId} (h : Blk w b cs t) {B : Nat} (hb : Z B w w') (hB : b < B) : Blk w' b cs t := by
 unfold Blk; rw [hb.block b hB]; exact h
theorem Blk.keep {w w' : World} {b : Nat} {cs : Array Value} {t : TypeId} (h : Blk w b cs t) {R : Nat → Prop} (hk : zg R w w') (hR : ¬ R b) : Blk w' b cs t := by
 unfold Blk; rw [hk.2.2.2.2 b h.lt hR]; exact h
theorem zg.refl (R : Nat → Prop) (w : World) : zg R w w := ⟨rfl, rfl, rfl, Nat.le_refl _, fun _ _ _ => rfl⟩
theorem zg.size {R : Nat → Prop} {w w' : World} (h : zg R w w') : w.heap.size ≤ w'.heap.size := h.2.2.2.1
theorem zg.block {R : Nat → Prop} {w w' : World} (h : zg R w w') {k : Nat} (hk : k < w.heap.size) (hR : ¬ R k) : w'.heap[k]? = w.heap[k]? := h.2.2.2.2 k hk hR
theorem zg.trans {R : Nat → Prop} {a b c : World} (h : zg R a b) (k : zg R b c) : zg R a c :=
 ⟨k.1.trans h.1, k.2.1.trans h.2.1, k.2.2.1.trans h.2.2.1, Nat.le_trans h.size k.size, fun _ hi hR => (k.block (Nat.lt_of_lt_of_le hi h.size) hR).trans (h.block hi hR)⟩
theorem zg.mono {R S : Nat → Prop} {w w' : World} (h : zg R w w') (hs : ∀ k, k < w.heap.size → R k → S k) : zg S w w' :=
 ⟨h.1, h.2.1, h.2.2.1, h.size, fun k hk hS => h.block hk fun hR => hS (hs k hk hR)⟩
theorem zg.setCell {R : Nat → Prop} {w w' : World} (h : zg R w w') {p : Addr} (hp : R p.block) (u : Value) : zg R w (r w' p u) :=
 h.trans ⟨rfl, rfl, rfl, by simp [World.setCell], fun _ _ hR => heap_setCell_other _ _ _ _ fun e => hR (e ▸ hp)⟩
theorem zg.alloc {R : Nat → Prop} {w w' : World} (h : zg R w w') (o : Obj) : zg R w (w'.alloc o) :=
 h.trans ⟨rfl, rfl, rfl, by simp, fun _ hk _ => Below.heap_alloc _ _ _ hk⟩
theorem zg.drew {R : Nat → Prop} {w w' : World} (h : zg R w w') : zg R w w'.drew := h
theorem zg.ofBelow {R : Nat → Prop} {B : Nat} {w w' : World} (h : Z B w w') (hR : ∀ k, k < w.heap.size → B ≤ k → R k) : zg R w w' :=
 ⟨h.os, h.tape, h.output, h.size, fun k hk hr => h.block k (by rcases Nat.lt_or_ge k B with x | x; exact x; exact absurd (hR k hk x) hr)⟩
theorem zg.below {R : Nat → Prop} {B : Nat} {w w' : World} (h : zg R w w') (hB : B ≤ w.heap.size) (hR : ∀ k, R k → B ≤ k) : Z B w w' :=
 ⟨h.1, h.2.1, h.2.2.1, h.size, fun k hk => h.block (Nat.lt_of_lt_of_le hk hB) fun hr => by have := hR k hr; omega⟩
theorem zg.ofGrown {R : Nat → Prop} {w w' : World} {row : Option Nat} (h : w.grownBy w' row) (hR : ∀ k, row = some k → R k) : zg R w w' :=
 ⟨h.os, h.tape, h.output, h.size, fun k hk hr => h.block k hk fun e => hr (hR k e.symm)⟩
theorem zg.cell {R : Nat → Prop} {w w' : World} (h : zg R w w') {b o : Nat} (hb : b < w.heap.size) (hR : ¬ R b) : w'.cell? ⟨b, o, U⟩ = w.cell? ⟨b, o, U⟩ := by
 have := h.block hb hR;unfold World.cell?
 simp only [this]
end Go.Proofs.Ytpcnlifmkhagkaa
