import Derived.Test.YtpcnlifmkhagkaaGreatKTJ07
import Derived.Test.YtpcnlifmkhagkaaGreatKTShelf
import Derived.Lib.OwnBridge
import Derived.Sort.Grow
set_option maxRecDepth 20000
set_option maxHeartbeats 20000000
namespace Go.Proofs.YtpcnlifmkhagkaaGreat
open Go.RowKit
open Go.Value renaming slice → G, int → E
open Go.IntKind renaming i64 → J
open _root_.Option renaming none → U
open Go.Obj renaming cells → T
open Go.RowKit renaming Hid → Q, Below → Z
open _root_.Nat renaming le_refl → kaa
open Go.RowKit.Below renaming refl → kab
open _root_.List renaming take_of_length_le → kac
attribute [local go_sem ↓] Go.wp_at_zero Go.wp_at_succ
def ofP (l : List P3) (i : Nat) : List P3 := l.filter fun p => decide (p.1 = (i : Int))
def zhj (l : List P3) : Nat → List S4 → Int
 | _, [] => 0
 | i, s :: t => if zco s (ofP l i) = 0 then zhj l (i + 1) t else zco s (ofP l i)
def zf1 (l : List P3) : Nat → List S4 → List S4
 | _, [] => []
 | i, s :: t => doB s (ofP l i) :: zf1 l (i + 1) t
def errM (S : List S4) (l : List P3) : Int := zhj l 0 S
def doM (S : List S4) (l : List P3) : List S4 := if errM S l = 0 then zf1 l 0 S else S
def zd1 (S : List S4) : List (List P3) → List S4
 | [] => S
 | l :: t => zd1 (doM S l) t
def zgc (S : List S4) : List (List P3) → List Int
 | [] => []
 | l :: t => errM S l :: zgc (doM S l) t
theorem ziq (l : List P3) : ∀ (i : Nat) (S : List S4), (zf1 l i S).length = S.length
 | _, [] => rfl
 | i, s :: t => by simp only [zf1, List.length_cons]; rw [ziq l (i + 1) t]
theorem doM_len (S : List S4) (l : List P3) : (doM S l).length = S.length := by
 unfold doM; split
 ·exact ziq _ _ _
 ·rfl
theorem zmo (l : List P3) : ∀ (i : Nat) (S : List S4) (k : Nat) (h : k < S.length) (h' : k < (zf1 l i S).length), (zf1 l i S)[k] = doB S[k] (ofP l (i + k))
 | i, s :: t, 0, _, _ => rfl
 | i, s :: t, k + 1, h, h' => by
  simp only [zf1, List.getElem_cons_succ]
  rw [zmo l (i + 1) t k (by simpa using h) (by rw [ziq]; simpa using h)];rw [show i + 1 + k = i + (k + 1) by omega]
theorem zi2 {l : List P3} : ∀ {i : Nat} {S : List S4}, zhj l i S = 0 ↔ ∀ k (h : k < S.length), zco S[k] (ofP l (i + k)) = 0
 | i, [] => by simp [zhj]
 | i, s :: t => by
  simp only [zhj]
  constructor
  ·intro h
   split at h
   ·rename_i h0
    intro k hk
    cases k with
    | zero => simpa using h0
    | succ k =>
     have := (zi2 (i := i + 1) (S := t)).1 h k (by simpa using hk);simp only [List.getElem_cons_succ]
     rw [show i + (k + 1) = i + 1 + k by omega]; exact this
   ·rename_i h0; exact absurd h h0
  ·intro h
   have h0 := h 0 (by simp);rw [Nat.add_zero] at h0;rw [if_pos (show zco s (ofP l i) = 0 from h0)];refine (zi2 (i := i + 1) (S := t)).2 fun k hk => ?_
   have := h (k + 1) (by simpa using hk);simp only [List.getElem_cons_succ] at this
   rw [show i + 1 + k = i + (k + 1) by omega]; exact this
def Apart (a b : List P3) : Prop := ∀ p ∈ a, ∀ q ∈ b, zex p q = false
theorem Apart.symm {a b : List P3} (h : Apart a b) : Apart b a := fun q hq p hp => by
 have := h p hp q hq;simp only [zex, decide_eq_false_iff_not] at this ⊢
 exact fun ⟨x, y⟩ => this ⟨x.symm, y.symm⟩
theorem zk8 : ∀ (L : List (List P3)) (S : List S4), (zd1 S L).length = S.length
 | [], _ => rfl
 | l :: t, S => by simp only [zd1]; rw [zk8 t, doM_len]
theorem zlr : ∀ (L : List (List P3)) (S : List S4) (l : List P3), zd1 S (L ++ [l]) = doM (zd1 S L) l
 | [], _, _ => rfl
 | _ :: t, S, l => by simp only [List.cons_append, zd1]; rw [zlr t]
theorem zmq : ∀ (L : List (List P3)) (S : List S4) (l : List P3), zgc S (L ++ [l]) = zgc S L ++ [errM (zd1 S L) l]
 | [], _, _ => rfl
 | _ :: t, S, l => by simp only [List.cons_append, zgc, zd1]; rw [zmq t]
def zr (l : List P3) : List Int := ([0, 1, 2] : List Int).filter fun n => decide (0 < (ofB l n).length)
structure Gh where
 log : List R3
 boot : Int
 next : Int
 opn : List O4
structure WW where
 hd : Gh
 hs : List (List R3)
 net : List Q4
def za4 (o : O4) : List Q4 := ((zr o.2.1).filter fun n => !inI o.2.2.2 n).map fun n => if o.2.2.1 = true then (4, o.1, n, []) else (1, o.1, n, ofB o.2.1 n)
def za3 (o : O4) : List Q4 := (zr o.2.1).map fun n => (5, o.1, n, [])
def zn (L : List R3) : Gh := ⟨L, (zaa L).1, 0, (zaa L).2.map fun x => (x.1, x.2, true, [])⟩
def zq (g : Gh) : Gh × Int := if 19 < g.boot then (g, 5) else (zn (g.log ++ [(4, 0, [])]), 0)
def zj (g : Gh) (l : List P3) : Gh × List Q4 × Int :=
 if 11 < g.opn.length ∨ 63 < g.next then (g, [], 9)
 else ({ g with opn := g.opn ++ [(64 * g.boot + g.next, l, false, [])], next := g.next + 1 }, za4 (64 * g.boot + g.next, l, false, []), 0)
def zv (m : Q4) (o : O4) : Option O4 × List R3 × List Q4 :=
  if m.1 = 2 ∧ o.2.2.1 = false ∧ (inI (zr o.2.1) m.2.2.1 = true ∧ inI o.2.2.2 m.2.2.1 = false) then
    (if (o.2.2.2 ++ [m.2.2.1]).length = (zr o.2.1).length then (some (o.1, o.2.1, true, []), [(5, o.1, o.2.1)], za4 (o.1, o.2.1, true, []))
     else (some (o.1, o.2.1, false, o.2.2.2 ++ [m.2.2.1]), [], []))
  else if m.1 = 3 ∧ o.2.2.1 = false then (U, [], za3 o)
  else if m.1 = 6 ∧ o.2.2.1 = true ∧ (inI (zr o.2.1) m.2.2.1 = true ∧ inI o.2.2.2 m.2.2.1 = false) then
    (if (o.2.2.2 ++ [m.2.2.1]).length = (zr o.2.1).length then (U, [(6, o.1, [])], [])
     else (some (o.1, o.2.1, true, o.2.2.2 ++ [m.2.2.1]), [], []))
  else if m.1 = 7 ∧ o.2.2.1 = true then (some o, [], [(4, m.2.1, m.2.2.1, [])])
  else (some o, [], [])
def zb2 (m : Q4) : List O4 → Option (List O4 × List R3 × List Q4)
 | [] => U
 | o :: t => if o.1 = m.2.1 then some ((zv m o).1.toList ++ t, (zv m o).2.1, (zv m o).2.2) else (zb2 m t).map fun x => (o :: x.1, x.2)
def zc (g : Gh) (m : Q4) : Gh × List Q4 :=
 match zb2 m g.opn with
 | some x => ({ g with opn := x.1, log := g.log ++ x.2.1 }, x.2.2)
 | none => (g, if m.1 = 7 then [(5, m.2.1, m.2.2.1, [])] else [])
def zdj (g : Gh) : List Q4 := g.opn.flatMap za4
def zk (g : Gh) : Gh × List Q4 := ({ g with opn := g.opn.filter fun o => o.2.2.1 }, (g.opn.filter fun o => !o.2.2.1).flatMap za3)
def zbt (net ms : List Q4) : List Q4 := net ++ ms.take (24 - net.length)
def askW (D : List D2) (me : Int) : List Q4 := D.map fun x => (7, x.1, me, [])
def zay (n : Nat) : WW := ⟨zn [(4, 0, [])], List.replicate n [], []⟩
def WW.at (W : WW) (k : Int) : List R3 := W.hs.getD k.toNat []
def zd5 (W : WW) (m : Q4) : WW :=
  if m.2.2.1 < W.hs.length then
    (if m.1 = 1 ∨ m.1 = 4 ∨ m.1 = 5 then
      { W with hs := W.hs.set m.2.2.1.toNat (zp (W.at m.2.2.1) m.1 m.2.1 m.2.2.2), net := zbt W.net (zau (W.at m.2.2.1) m.2.2.1 m.1 m.2.1 m.2.2.2) }
     else { W with hd := (zc W.hd m).1, net := zbt W.net (zc W.hd m).2 })
  else W
def zl (W : WW) (s : Int × Int × List P3) : WW × Int :=
  if s.1 = 1 then
    (if zax s.2.2 W.hs.length = 0 then ({ W with hd := (zj W.hd s.2.2).1, net := zbt W.net (zj W.hd s.2.2).2.1 }, (zj W.hd s.2.2).2.2) else (W, zax s.2.2 W.hs.length))
  else if s.1 = 2 ∨ s.1 = 3 ∨ s.1 = 4 then
    (if 0 ≤ s.2.1 then
      (match W.net[s.2.1.toNat]? with
       | none => (W, 6)
       | some m => if s.1 = 4 then ({ W with net := if W.net.length < 24 then W.net ++ [m] else W.net }, 0)
         else if s.1 = 3 then ({ W with net := W.net.eraseIdx s.2.1.toNat }, 0)
         else (zd5 { W with net := W.net.eraseIdx s.2.1.toNat } m, 0))
     else (W, 6))
  else if s.1 = 5 then (if s.2.1 = 3 then ({ W with hd := (zq W.hd).1 }, (zq W.hd).2) else if s.2.1 < 0 ∨ (W.hs.length : Int) ≤ s.2.1 then (W, 6) else (W, 0))
  else if s.1 = 6 then (if s.2.1 = 3 then ({ W with net := zbt W.net (zdj W.hd) }, 0) else if s.2.1 < 0 ∨ (W.hs.length : Int) ≤ s.2.1 then (W, 6) else ({ W with net := zbt W.net (askW (zd (W.at s.2.1)).2.1 s.2.1) }, 0))
  else if s.1 = 7 then ({ W with hd := (zk W.hd).1, net := zbt W.net (zk W.hd).2 }, 0)
  else (W, 1)
def zat (n : Nat) (l : List (Int × Int × List P3)) : WW := (l.take 150).foldl (fun W s => (zl W s).1) (zay n)
theorem Blk.cells4 {w : World} {N : Nat} {zV : TypeId} {c0 c1 c2 c3 : Value} (h : Blk w N #[c0, c1, c2, c3] zV) : w.cell? ⟨N, 0, U⟩ = some c0 ∧ w.cell? ⟨N, 1, U⟩ = some c1 ∧ w.cell? ⟨N, 2, U⟩ = some c2 ∧ w.cell? ⟨N, 3, U⟩ = some c3 := ⟨h.cell 0, h.cell 1, h.cell 2, h.cell 3⟩
theorem Blk.free4 {w : World} {N : Nat} {zV : TypeId} {c0 c1 c2 c3 : Value} (h : Blk w N #[c0, c1, c2, c3] zV) : w.frozen? ⟨N, 0, U⟩ = false ∧ w.frozen? ⟨N, 1, U⟩ = false ∧ w.frozen? ⟨N, 2, U⟩ = false ∧ w.frozen? ⟨N, 3, U⟩ = false := ⟨h.free 0, h.free 1, h.free 2, h.free 3⟩
theorem za.slice {α : Type} {e : TypeId} {size : Nat} {enc : α → List Value} {w : World} {base : Nat} {v : Value} {xs : List α} (he : ∀ x, (enc x).length = size) (h : za e size enc w base v xs) : ∃ a n c, v = G a n c := by
 obtain ⟨a, c, hv, _⟩ := h.row he;exact ⟨a, _, c, hv⟩
def zcx (R : Nat → Prop) (w : World) (a : Option Addr) (l : List Int) : Prop := zi 1 zu w a l ∧ Out R a l.length
theorem zcx.keep {R : Nat → Prop} {w w' : World} {a : Option Addr} {l : List Int} (h : zcx R w a l) (hk : zf R w w') : zcx R w' a l := ⟨h.1.keepR h.2 hk, h.2⟩
theorem zcx.below {R : Nat → Prop} {w w' : World} {a : Option Addr} {l : List Int} (h : zcx R w a l) (hb : Z w.heap.size w w') : zcx R w' a l := h.keep (zb8 hb)
theorem zcx.wide {R R' : Nat → Prop} {w : World} {a : Option Addr} {l : List Int} (h : zcx R w a l) (hR : ∀ b, R' b → R b ∨ w.heap.size ≤ b) : zcx R' w a l := ⟨h.1, h.1.out h.2 hR⟩
theorem zcx.nil (R : Nat → Prop) (w : World) (a : Option Addr) : zcx R w a [] := ⟨Or.inl rfl, Or.inl rfl⟩
theorem za.intsR {w : World} {base : Nat} {a : Option Addr} {n c : Nat} {l : List Int} (h : za 3 1 zu w base (G a n c) l) {R : Nat → Prop} (hR : ∀ b, R b → b < base) : n = l.length ∧ zcx R w a l := by
 have h1 := h.at zaf;exact ⟨h1.2.1, h1.1, h.outR hR _⟩
theorem zai.outR {base : Nat} {w : World} {a : Option Addr} {l : List P3} (h : zai base w a l) {R : Nat → Prop} (hR : ∀ b, R b → b < base) : zz R w a l := by
 refine ⟨h.at, ?_⟩;rcases h with rfl | ⟨b, o, cs, rfl, hb, -, -⟩
 ·exact Or.inl rfl
 ·refine Or.inr (fun ad had hr => ?_)
  cases had;have h' : b < base := hR _ hr;omega
def OpR (R : Nat → Prop) (w : World) (x : XO) : Prop := zz R w x.2.1.1.1 x.2.1.2 ∧ zcx R w x.2.2.2.1.1 x.2.2.2.2
theorem OpR.keep {R : Nat → Prop} {w w' : World} {x : XO} (h : OpR R w x) (hk : zf R w w') : OpR R w' x := ⟨h.1.keep hk, h.2.keep hk⟩
theorem OpR.below {R : Nat → Prop} {w w' : World} {x : XO} (h : OpR R w x) (hb : Z w.heap.size w w') : OpR R w' x := h.keep (zb8 hb)
theorem OpR.wide {R R' : Nat → Prop} {w : World} {x : XO} (h : OpR R w x) (hR : ∀ b, R' b → R b ∨ w.heap.size ≤ b) : OpR R' w x := ⟨h.1.wide hR, h.2.wide hR⟩
structure zbh (R : Nat → Prop) (w : World) (la : Option Addr) (nl : Nat) (Y : List XL) (oa : Option Addr) (no : Nat) (X : List XO) (L : List R3) (O : List O4) : Prop where
 ln : nl = Y.length
 log : zi 3 zah w la Y
 lout : Out R la Y.length
 says : Y.map ze = L
 parts : ∀ y ∈ Y, zz R w y.2.2.1.1 y.2.2.2
 on : no = X.length
 opn : zi 4 zaj w oa X
 oout : Out R oa X.length
 osays : X.map zw = O
 oparts : ∀ x ∈ X, OpR R w x
section
variable {R R' : Nat → Prop} {w w' : World} {la : Option Addr} {nl : Nat} {Y : List XL} {oa : Option Addr} {no : Nat} {X : List XO} {L : List R3} {O : List O4}
theorem zbh.keep (H : zbh R w la nl Y oa no X L O) (hk : zf R w w') : zbh R w' la nl Y oa no X L O :=
 ⟨H.ln, H.log.keepR H.lout hk, H.lout, H.says, fun y hy => (H.parts y hy).keep hk, H.on, H.opn.keepR H.oout hk, H.oout, H.osays, fun x hx => (H.oparts x hx).keep hk⟩
theorem zbh.below (H : zbh R w la nl Y oa no X L O) (hb : Z w.heap.size w w') : zbh R w' la nl Y oa no X L O := H.keep (zb8 hb)
theorem zbh.wide (H : zbh R w la nl Y oa no X L O) (hR : ∀ b, R' b → R b ∨ w.heap.size ≤ b) : zbh R' w la nl Y oa no X L O :=
 ⟨H.ln, H.log, H.log.out H.lout hR, H.says, fun y hy => (H.parts y hy).wide hR, H.on, H.opn, H.opn.out H.oout hR, H.osays, fun x hx => (H.oparts x hx).wide hR⟩
end
def zy (R : Nat → Prop) (w : World) (v : Value) (g : Gh) : Prop :=
 ∃ (la : Option Addr) (nl lc : Nat) (Y : List XL) (oa : Option Addr) (no oc : Nat) (X : List XO),
  v = .agg #[G la nl lc, E J g.boot, E J g.next, G oa no oc] ∧ zbh R w la nl Y oa no X g.log g.opn
theorem zy.keep {R : Nat → Prop} {w w' : World} {v : Value} {g : Gh} (H : zy R w v g) (hk : zf R w w') : zy R w' v g := by
 obtain ⟨la, nl, lc, Y, oa, no, oc, X, hv, hf⟩ := H;exact ⟨la, nl, lc, Y, oa, no, oc, X, hv, hf.keep hk⟩
theorem zy.below {R : Nat → Prop} {w w' : World} {v : Value} {g : Gh} (H : zy R w v g) (hb : Z w.heap.size w w') : zy R w' v g := H.keep (zb8 hb)
theorem zy.wide {R R' : Nat → Prop} {w : World} {v : Value} {g : Gh} (H : zy R w v g) (hR : ∀ b, R' b → R b ∨ w.heap.size ≤ b) : zy R' w v g := by
 obtain ⟨la, nl, lc, Y, oa, no, oc, X, hv, hf⟩ := H;exact ⟨la, nl, lc, Y, oa, no, oc, X, hv, hf.wide hR⟩
theorem zy.g {R : Nat → Prop} {w : World} {v : Value} {g : Gh} (H : zy R w v g) : zgm w v g.log g.boot g.next g.opn := by
 obtain ⟨la, nl, lc, Y, oa, no, oc, X, hv, F⟩ := H;exact ⟨la, nl, lc, Y, oa, no, oc, X, hv, ⟨by rw [F.ln, ← F.says, List.length_map], F.says, F.log, fun y hy => (F.parts y hy).1⟩, F.on, F.osays, F.opn, fun x hx => ⟨(F.oparts x hx).1.1, (F.oparts x hx).2.1⟩⟩
def zm (w : World) (base : Nat) (v : Value) (ms : List Q4) : Prop := ∃ X : List XM, za 25 4 zb3 w base v X ∧ X.map zce = ms ∧ ∀ x ∈ X, zai base w x.2.2.2.1.1 x.2.2.2.2
theorem zm.nil (w : World) (base : Nat) : zm w base (G U 0 0) [] := ⟨[], za.nil _ _, rfl, fun x hx => by cases hx⟩
theorem zm.below {w w' : World} {base : Nat} {v : Value} {ms : List Q4} (h : zm w base v ms) (hb : Z w.heap.size w w') : zm w' base v ms := by
 obtain ⟨X, h1, h2, h3⟩ := h;exact ⟨X, h1.below hb (kaa _), h2, fun x hx => (h3 x hx).calm (zg.below hb (kaa _))⟩
theorem zm.mono {w : World} {base base' : Nat} {v : Value} {ms : List Q4} (h : zm w base v ms) (hb : base' ≤ base) : zm w base' v ms := by
 obtain ⟨X, h1, h2, h3⟩ := h;exact ⟨X, h1.mono hb, h2, fun x hx => (h3 x hx).mono hb⟩
theorem zm.v {w : World} {base : Nat} {v : Value} {ms : List Q4} (h : zm w base v ms) {R : Nat → Prop} (hR : ∀ b, R b → b < base) : zar R w v ms := by
 obtain ⟨X, h1, h2, h3⟩ := h;obtain ⟨a, c, rfl, hr, _, _⟩ := h1.row zbu;exact ⟨a, _, c, X, rfl, rfl, hr, h1.outR hR _, h2, fun x hx => (h3 x hx).outR hR⟩
theorem znn (h k n H : Int) (b : Nat) (w : World) (hb : b < w.heap.size) (c0 : w.cell? ⟨b, 0, U⟩ = some (E J H)) :
  Calls Tryz.prog 113 #[.agg #[E J h, E J k, E J n], .pointer (some ⟨b, 0, U⟩)] w fun e w' => e = .returned (.bool (decide (h = H))) ∧ Z w.heap.size w w' := by
 go_enter Tryz.func113, Tryz.ntmps113
 go_wp2
 all_goals
  go_ret;refine ⟨zfw ?_, zh _ _⟩;rw [Bool.eq_iff_iff]; simp_all
theorem ofB_yes (l : List P3) (p : P3) (H : Int) (h : p.1 = H) : ofB (l ++ [p]) H = ofB l H ++ [p] := by simp [ofB, List.filter_append, h]
theorem ofB_no (l : List P3) (p : P3) (H : Int) (h : ¬ p.1 = H) : ofB (l ++ [p]) H = ofB l H := by simp [ofB, List.filter_append, h]
theorem keep_any (H : Int) (b : Nat) (a : Option Addr) (l : List P3) (cap n : Nat) (w : World) (hn : n = l.length) (hl : l.length ≤ 4) (hp : zae w a l) (hb : b < w.heap.size) (c0 : w.cell? ⟨b, 0, U⟩ = some (E J H)) :
  Calls Tryz.prog 112 #[G a n cap, .func (.func 113) #[] #[.pointer (some ⟨b, 0, U⟩)]] w fun e w' => ∃ v, e = .returned v ∧ zbw w' w.heap.size v (ofB l H) ∧ Z w.heap.size w w' := by
 subst hn;go_enter Tryz.func112, Tryz.ntmps112
 go_wp2;go_loopw [5, 10] (fun v i w' => ∃ k : Nat, k ≤ l.length ∧ i = E J k ∧ zbw w' w.heap.size v (ofB (l.take k) H) ∧ Z w.heap.size w w') (fun _ i _ => l.length - (intOf i).toNat)
 case atStart => exact ⟨0, Nat.zero_le _, rfl, World.ownsRow_nil _ _ _ _, kab _ _⟩
 case round =>
  obtain ⟨k, hk, rfl, hown, hbw⟩ := hrel;by_cases hlt : k < l.length
  ·rcases hp with rfl | ⟨b', o, rfl, hb', hc⟩
   ·simp at hlt
   obtain ⟨d0, d1, d2⟩ := hc k hlt;clear hc;obtain ⟨hcc, hff⟩ := zc0 hbw;have hsz := hbw.size;go_wp2_with fail
   refine (znn _ _ _ H b _ (by simp; omega) (by rw [Below.cell (zh wr _) (by show b < _; omega), hcc _ _ hb]; exact c0)).mono ?_;rintro e w1 ⟨rfl, hb1⟩;have hbr := (zh wr _).trans (hb1.mono (by simp));have hB1 := hbw.trans (hbr.mono hsz);have hsz1 : wr.heap.size + 1 ≤ w1.heap.size := by have := hb1.size; simpa using this
   have hown1 := hown.below hbr (kaa _);obtain ⟨hcc1, hff1⟩ := zc0 hb1;have q0 : w1.cell? ⟨wr.heap.size, 0, U⟩ = some (E J l[k].1) := by rw [hcc1 _ _ (by simp)]; simp
   have q1 : w1.cell? ⟨wr.heap.size, 1, U⟩ = some (E J l[k].2.1) := by rw [hcc1 _ _ (by simp)]; simp
   have q2 : w1.cell? ⟨wr.heap.size, 2, U⟩ = some (E J l[k].2.2) := by rw [hcc1 _ _ (by simp)]; simp
   have hle : (ofB (l.take k) H).length ≤ 1000000 := by
    have h1 : (ofB (l.take k) H).length ≤ (l.take k).length := List.length_filter_le _ _;have h2 := List.length_take_le k l;omega
   clear hcc1 hff1 hcc hff hown d0 d1 d2 c0 hb1;by_cases hs : l[k].1 = H
   ·have hd : decide (l[k].1 = H) = true := by simpa using hs
    have HE : Q (ofB (l.take (k + 1)) H = ofB (l.take k) H ++ [l[k]]) := by show _ = _; rw [zav hlt]; exact ofB_yes _ _ _ hs
    rw [hd];clear hs hd;go_wp2_with (at_builtin; refine zkg _ rfl _ _ rfl w.heap.size _ _ rfl (hown1.below (zh w1 _) (kaa _)) w1.heap.size l[k] rfl (by exact heap_alloc_new w1 _) hle (by have := hB1.size; simp; omega) ?_; intro g cap' w2 hown2 hgrow hat hlt2)
    have hB2 : Z w.heap.size w w2 := (hB1.trans ((zh w1 _).mono hB1.size)).grown hgrow (by have := hB1.size; simp; omega) (fun j hj => by
     rcases hown1.2 with ⟨hv, _⟩ | ⟨g', cap'', cur, hv, hg', _⟩
     ·rw [hv] at hj; cases hj
     ·rw [hv] at hj; cases hj; exact hg')
    clear hown1 hgrow hat q0 q1 q2 hbr;go_wp2;go_roundw
    case rel =>
     refine ⟨k + 1, by omega, by go_num, ?_, hB2⟩;rw [HE.out];exact hown2
    case measure => simp [intOf]; omega
   ·have hd : decide (l[k].1 = H) = false := by simpa using hs
    have HE : Q (ofB (l.take (k + 1)) H = ofB (l.take k) H) := by show _ = _; rw [zav hlt]; exact ofB_no _ _ _ hs
    rw [hd];clear hs hd;go_wp2;go_roundw
    case rel =>
     refine ⟨k + 1, by omega, by go_num, ?_, hB1⟩;rw [HE.out];exact hown1
    case measure => simp [intOf]; omega
  ·have HE : Q (l.take k = l) := by show _ = _; rw [kac (by omega)]
   clear hp;go_wp2;go_ret;exact ⟨_, rfl, by rw [HE.out] at hown; exact hown, hbw⟩
theorem of_any (H : Int) (a : Option Addr) (l : List P3) (cap n : Nat) (w : World) (hn : n = l.length) (hl : l.length ≤ 4) (hp : zae w a l) :
  Calls Tryz.prog 82 #[G a n cap, E J H] w fun e w' => ∃ v, e = .returned v ∧ zbw w' w.heap.size v (ofB l H) ∧ Z w.heap.size w w' := by
 subst hn;have HC := keep_any H w.heap.size a l cap l.length (w.alloc (T #[E J H] 3)) rfl hl (hp.below (zh w _)) (by simp) (by simp);clear hp;go_enter Tryz.func82, Tryz.ntmps82
 go_wp2_with fail
 refine HC.mono ?_;rintro e w1 ⟨v, rfl, hown, hb1⟩;clear HC;go_wp2;go_ret;refine ⟨_, rfl, ?_, (zh w _).trans (hb1.mono (by simp))⟩;refine ⟨hown.1, ?_⟩;rcases hown.2 with h0 | ⟨g, cap, cur, hv, hg, jj⟩
 ·exact Or.inl h0
 ·exact Or.inr ⟨g, cap, cur, hv, by simp at hg; omega, jj⟩
theorem zmr (H : Int) (a : Option Addr) (l : List P3) (cap n : Nat) (w : World) (hn : n = l.length) (hl : l.length ≤ 4) (hp : zae w a l) :
  Calls Tryz.prog 37 #[G a n cap, E J H] w fun e w' => ∃ v, e = .returned v ∧ zbw w' w.heap.size v (ofB l H) ∧ Z w.heap.size w w' := by
 subst hn;go_enter Tryz.func37, Tryz.ntmps37
 go_wp2;go_loopw [5, 10] (fun v i w' => ∃ k : Nat, k ≤ l.length ∧ i = E J k ∧ zbw w' w.heap.size v (ofB (l.take k) H) ∧ Z w.heap.size w w') (fun _ i _ => l.length - (intOf i).toNat)
 case atStart => exact ⟨0, Nat.zero_le _, rfl, World.ownsRow_nil _ _ _ _, kab _ _⟩
 case round =>
  obtain ⟨k, hk, rfl, hown, hbw⟩ := hrel;by_cases hlt : k < l.length
  ·rcases hp with rfl | ⟨b', o, rfl, hb', hc⟩
   ·simp at hlt
   obtain ⟨d0, d1, d2⟩ := hc k hlt;clear hc;obtain ⟨hcc, hff⟩ := zc0 hbw;have hsz := hbw.size
   have hle : (ofB (l.take k) H).length ≤ 1000000 := by
    have h1 : (ofB (l.take k) H).length ≤ (l.take k).length := List.length_filter_le _ _;have h2 := List.length_take_le k l;omega
   by_cases hs : l[k].1 = H
   ·have hd : (l[k].1 == H) = true := by simpa using hs
    have HE : ofB (l.take (k + 1)) H = ofB (l.take k) H ++ [l[k]] := by rw [zav hlt]; exact ofB_yes _ _ _ hs
    clear hs;generalize ofB (l.take k) H = os at *;have HX := zB HE hown;clear HE hown;go_wp2_with (at_builtin; refine zkg _ rfl _ _ rfl w.heap.size u5 _ rfl (HX.out.2.below (zaw wr _ _) (kaa _)) (wr.heap.size + 1) l[k] rfl (by exact zao wr _ _) hle (by simp; omega) ?_; intro g cap' w2 hown2 hgrow hat hlt2)
    have hB2 : Z w.heap.size w w2 := (hbw.trans ((zaw wr _ _).mono hsz)).grown hgrow (by simp; omega) (fun j hj => by
     rcases HX.out.2.2 with ⟨hv, _⟩ | ⟨g', cap'', cur, hv, hg', _⟩
     ·rw [hv] at hj; cases hj
     ·rw [hv] at hj; cases hj; exact hg')
    clear hgrow hat hcc hff d0 d1 d2 hle;go_wp2;go_roundw
    case rel =>
     refine ⟨k + 1, by omega, by go_num, ?_, hB2⟩;rw [HX.out.1];exact hown2
    case measure => simp [intOf]; omega
   ·have hd : (l[k].1 == H) = false := by simpa using hs
    have HE : Q (ofB (l.take (k + 1)) H = ofB (l.take k) H) := by show _ = _; rw [zav hlt]; exact ofB_no _ _ _ hs
    clear hs hle;have HX := zA hown;clear hown;go_wp2;go_roundw
    case rel =>
     refine ⟨k + 1, by omega, by go_num, ?_, hbw.alloc hsz _⟩;rw [HE.out];exact HX.out.below (zh wr _) (kaa _)
    case measure => simp [intOf]; omega
  ·have HE : Q (l.take k = l) := by show _ = _; rw [kac (by omega)]
   clear hp;go_wp2;go_ret;exact ⟨_, rfl, by rw [HE.out] at hown; exact hown, hbw⟩
open Go.RowKit Go.Sort
def zc3 (w : World) (base : Nat) (v : Value) (l : List Int) : Prop := w.ownsRow base 3 1 v l.length (l.map (Value.int J))
def sortB (l : List P3) : List Int := (l.map (·.1)).mergeSort fun x y => decide (x ≤ y)
def zhn (l : List P3) : List Int := Lib.compact (sortB l)
theorem zc3.below {w w' : World} {base : Nat} {v : Value} {l : List Int} (h : zc3 w base v l) {B : Nat} (hb : Z B w w') (hB : w.heap.size ≤ B) : zc3 w' base v l := zhl h hb hB
theorem zkf {ops : Array Oper} {rest : List Oper} {o : Oper} {a : Act} {zZ : Exit → Act → World → Prop} (w : World) (hgd : o.guard = U) (s x : Operand)
  (ho : o.op = .call { callee := .builtin .append, args := #[s, x], argTypes := #[56, 56] })
  (base : Nat) (v : Value) (l : List Int) (hs : a.eval s = v) (hown : zc3 w base v l) (B : Nat) (p : Int) (hx : a.eval x = G (some ⟨B, 0, U⟩) 1 1)
  (hB : w.heap[B]? = some (T #[E J p] 3)) (hl : l.length ≤ 1000000) (hbase : base ≤ w.heap.size)
  (h : ∀ g cap w', zc3 w' base (G (some ⟨g, 0, U⟩) (l.length + 1) cap) (l ++ [p]) → w.grownBy w' v.ownBlock → (v.ownBlock = some g ∨ g = w.heap.size) → g < w'.heap.size → wpList Tryz.prog ops zZ rest (a.put o.dst (G (some ⟨g, 0, U⟩) (l.length + 1) cap)) w') : wpList Tryz.prog ops zZ (o :: rest) a w := by
 obtain ⟨i0, hi, hz0, hz1, hz2⟩ := info_parts zcn;refine wpList_append_lies w hgd s x 56 ho base 3 i0 _ 1 8 Tryz.underlying56 hi hz0 hz1 hz2 rfl (by decide) v l.length (l.map (Value.int J)) hs hown ⟨B, 0, U⟩ 1 1 [E J p] hx rfl (World.news_of_block hB) ?_ (by decide) (by unfold maxLen; omega) (by omega) hbase w.heap.size rfl ?_
 ·intro u hu
  simp at hu
  subst hu;rfl
 ·intro g cap w' h1 h2 h3 h4
  refine h g cap w' ?_ h2 h3 h4;unfold zc3
  simpa using h1
theorem zc3.row {w : World} {base : Nat} {v : Value} {l : List Int} (h : zc3 w base v l) : ∀ k, v.ownBlock = some k → base ≤ k := by
 intro j hj;rcases h.2 with ⟨hv, _⟩ | ⟨g', cap'', cur, hv, hg', _⟩
 ·rw [hv] at hj; cases hj
 ·rw [hv] at hj; cases hj; exact hg'
theorem znb {B : Nat} {a w : World} (h : Z B a w) (hB : B ≤ w.heap.size) (os : Array Obj) : Z B a (grow w os) :=
 h.trans ⟨rfl, rfl, rfl, by simp, fun k hk => heap_grow_old w os (by omega)⟩
theorem znf (a : Option Addr) (l : List P3) (cap n : Nat) (w : World) (hn : n = l.length) (hl : l.length ≤ 4) (h1 : 1 ≤ l.length) (hp : zae w a l) :
  Calls Tryz.prog 78 #[G a n cap] w fun e w' => ∃ v, e = .returned v ∧ zc3 w' w.heap.size v (zhn l) ∧ Z w.heap.size w w' := by
 subst hn;obtain ⟨i0, hi, hz0, hz1, hz2⟩ := info_parts zcn;go_enter Tryz.func78, Tryz.ntmps78
 go_wp2_with (at_make; refine wpList_make_own _ rfl _ _ 56 rfl w.heap.size 3 i0 (E J 0) 1 Tryz.underlying56 hi hz0 hz1 J J _ l.length rfl rfl rfl (by rw [hz2]; omega) (by unfold maxLen; omega) (kaa _) ?_; intro w1 hown hgrow)
 have hB1 := (kab _ _).grown hgrow (kaa _) (fun k hk => by cases hk);clear hgrow hi hz0 hz1 hz2;go_loopw [3, 11] (fun v i w' => ∃ k : Nat, k ≤ l.length ∧ i = E J k ∧ zc3 w' w.heap.size v ((l.take k).map (·.1)) ∧ Z w.heap.size w w' ∧ v ≠ G U 0 0) (fun _ i _ => l.length - (intOf i).toNat)
 case atStart => exact ⟨0, Nat.zero_le _, rfl, hown, hB1, by simp⟩
 case round =>
  obtain ⟨k, hk, rfl, hown, hbw, hne⟩ := hrel;by_cases hlt : k < l.length
  ·rcases hp with rfl | ⟨b', o, rfl, hb', hc⟩
   ·simp at hlt
   obtain ⟨d0, d1, d2⟩ := hc k hlt;clear hc;obtain ⟨hcc, hff⟩ := zc0 hbw;have hsz := hbw.size;have hle : ((l.take k).map (·.1)).length ≤ 1000000 := by simp; omega
   have HE : (l.take (k + 1)).map (·.1) = (l.take k).map (·.1) ++ [l[k].1] := by rw [zav hlt, List.map_append]; rfl
   generalize (l.take k).map (·.1) = zs at *;have HE2 := zA HE;have HO := zA hown;clear hown HE;go_wp2_with (at_builtin; refine zkf _ rfl _ _ rfl w.heap.size _ _ rfl (HO.out.below (zaw wr _ _) (kaa _)) (wr.heap.size + 1) l[k].1 rfl (by exact zao wr _ _) hle (by simp; omega) ?_; intro g cap' w2 hown2 hgrow hat hlt2)
   have hB2 := (hbw.trans ((zaw wr _ _).mono hsz)).grown hgrow (by simp; omega) HO.out.row;clear hgrow hat HO hcc hff d0 d1 d2 hle;go_wp2;go_roundw
   case rel =>
    refine ⟨k + 1, by omega, by go_num, ?_, hB2, by simp⟩;rw [HE2.out];exact hown2
   case measure => simp [intOf]; omega
  ·have hlk : l.take k = l := by rw [kac (by omega)]
   rw [hlk] at hown;obtain ⟨zs, hzs⟩ : ∃ zs, zs = l.map (·.1) := ⟨_, rfl⟩;have hzl : zs.length = l.length := by rw [hzs]; simp
   have hz4 : zs.length ≤ 4 := by omega
   rw [← hzs] at hown;have HZ := zB hzs hzl;clear hzs hzl hlk hp;obtain ⟨g, cap', rfl, hbg, hgl, hncap, hcm, _, hH⟩ := Lib.holds_of_ownsRow hown hne;have hsort := Tryz.slices_Sort_int g 0 cap' zs wr hH hgl (by omega);have HX := zB hown hH;clear hown hne hH;go_wp2_with fail
   refine hsort.mono ?_;rintro e w2 ⟨rfl, nn, os, rfl⟩;clear hsort;have hl2 : (zs.mergeSort fun x y => decide (x ≤ y)).length = zs.length := List.length_mergeSort zs
   have hH2 : Holds (Value.int J) (grow (putRow (Value.int J) (Sort.ahead wr nn) g 0 (zs.mergeSort fun x y => decide (x ≤ y)).toArray) os) g 0 (zs.mergeSort fun x y => decide (x ≤ y)).toArray :=
    holds_grow _ _ os g 0 _ (by simpa [putRow, mapBlock, Sort.ahead] using hgl) (holds_putRow _ _ g 0 _ _ (holds_ahead _ wr nn g 0 _ HX.out.2) (by simp))
   have hB2 : Z w.heap.size w (grow (putRow (Value.int J) (Sort.ahead wr nn) g 0 (zs.mergeSort fun x y => decide (x ≤ y)).toArray) os) := znb (Lib.below_putRow hbw hbg) (by simpa [putRow, mapBlock, Sort.ahead] using hbw.size) os
   have hO2 : zc3 (grow (putRow (Value.int J) (Sort.ahead wr nn) g 0 (zs.mergeSort fun x y => decide (x ≤ y)).toArray) os) w.heap.size (G (some ⟨g, 0, U⟩) zs.length cap') (zs.mergeSort fun x y => decide (x ≤ y)) := by
    have h1 := Lib.ownsRow_putRow (q := nn) (k := zs.length) (ys := zs.mergeSort fun x y => decide (x ≤ y)) HX.out.1 hl2 (kaa _);rw [kac (by omega)] at h1;have h2 := zhl h1 (znb (kab _ _) (kaa _) os) (kaa _);unfold zc3
    rw [hl2];exact h2
   have HS : Q (zhn l = Lib.compact (zs.mergeSort fun x y => decide (x ≤ y))) := by
    show _ = _
    rw [HZ.out.1]; rfl
   generalize (grow (putRow (Value.int J) (Sort.ahead wr nn) g 0 (zs.mergeSort fun x y => decide (x ≤ y)).toArray) os) = w2 at *;generalize (zs.mergeSort fun x y => decide (x ≤ y)) = ys at *;have hcomp := Tryz.slices_Compact_int g 0 cap' ys w2 hH2 (by omega) (by omega);rw [hl2] at hcomp;have HY := zB hl2 hO2;clear hl2 hO2 hH2 HX HZ;go_wp2_with fail
   refine hcomp.mono ?_;rintro e w3 ⟨rfl, q, rfl⟩;clear hcomp;have HL := zA (Lib.compact_length_le ys);go_wp2;go_ret;refine ⟨_, rfl, ?_, Lib.below_putRow hB2 hbg⟩;rw [HS.out];have hle := HL.out;have hO := HY.out.2;unfold zc3 at hO
   rw [HY.out.1] at hO hle;have hc := Lib.ownsRow_putRow (q := q) (k := (Lib.compact ys).length) (ys := Lib.compact ys ++ List.replicate (zs.length - (Lib.compact ys).length) 0) hO (by simp; omega) hle;rw [List.take_left] at hc;unfold zc3
   exact hc
def zdw (l : List P3) (k : Int) : List Int := ([0, 1, 2] : List Int).filter fun n => decide (n < k ∧ 0 < (ofB l n).length)
theorem zqc (l : List P3) : zdw l 0 = [] := by
 simp [zdw]
theorem zqe (l : List P3) {k : Int} (h0 : 0 ≤ k) (h3 : k < 3) : zdw l (k + 1) = if 0 < (ofB l k).length then zdw l k ++ [k] else zdw l k := by
 have hk : k = 0 ∨ k = 1 ∨ k = 2 := by omega
 rcases hk with rfl | rfl | rfl
 all_goals
  simp only [zdw, List.filter_cons, List.filter_nil]
  generalize (ofB l 0).length = n0;generalize (ofB l 1).length = n1;generalize (ofB l 2).length = n2;by_cases c0 : 0 < n0 <;> by_cases c1 : 0 < n1 <;> by_cases c2 : 0 < n2 <;> simp [c0, c1, c2]
theorem zn2 (l : List P3) (k : Int) : (zdw l k).length ≤ 3 := by
 have := List.length_filter_le (fun n => decide (n < k ∧ 0 < (ofB l n).length)) ([0, 1, 2] : List Int)
 simpa [zdw] using this
theorem zgd (a : Option Addr) (l : List P3) (cap n : Nat) (w : World) (hn : n = l.length) (hl : l.length ≤ 4) (hp : zae w a l) :
  Calls Tryz.prog 62 #[G a n cap] w fun e w' => ∃ v, e = .returned v ∧ zc3 w' w.heap.size v (zdw l 3) ∧ Z w.heap.size w w' := by
 subst hn;go_enter Tryz.func62, Tryz.ntmps62
 go_wp2;go_loopw [3, 5] (fun v i w' => ∃ k : Int, 0 ≤ k ∧ k ≤ 3 ∧ i = E J k ∧ zc3 w' w.heap.size v (zdw l k) ∧ Z w.heap.size w w') (fun _ i _ => (3 - intOf i).toNat)
 case atStart => exact ⟨0, by omega, by omega, rfl, by rw [zqc]; exact World.ownsRow_nil _ _ _ _, kab _ _⟩
 case round =>
  obtain ⟨k, hk0, hk, rfl, hown, hbw⟩ := hrel;by_cases hlt : k < 3
  ·have zbe := zqe l hk0 hlt
   have hlen := zn2 l k;generalize zdw l k = rs at *;have hsz := hbw.size;go_wp2_with fail
   refine (zmr k a l cap _ wr rfl hl (hp.below hbw)).mono ?_;rintro e w1 ⟨v, rfl, hov, hb1⟩;obtain ⟨a1, c1, rfl, _, _⟩ := hov.parts;have hsz1 := hb1.size;have hB1 := hbw.trans (hb1.mono hsz);have hown1 := hown.below hb1 (kaa _);clear hov hb1 hown hbw;by_cases hc : 0 < (ofB l k).length
   ·rw [if_pos hc] at zbe
    have hc' : 0 < ((ofB l k).length : Int) := by omega
    have HX := zB zbe hown1;clear zbe hown1 hc;go_wp2_with (at_builtin; refine zkf _ rfl _ _ rfl w.heap.size u3 rs rfl (HX.out.2.below (zh w1 _) (kaa _)) w1.heap.size k rfl (by exact heap_alloc_new w1 _) (by omega) (by simp; omega) ?_; intro g cap' w2 hown2 hgrow hat hlt2)
    have hB2 := (hB1.alloc (by omega) _).grown hgrow (by simp; omega) HX.out.2.row;clear hgrow hat;go_wp2;go_roundw
    case rel => exact ⟨k + 1, by omega, by omega, by go_num, by rw [HX.out.1]; exact hown2, hB2⟩
    case measure => simp [intOf]; omega
   ·rw [if_neg hc] at zbe
    have hc' : ¬ 0 < ((ofB l k).length : Int) := by omega
    have HX := zB zbe hown1;clear zbe hown1 hc;go_wp2;go_roundw
    case rel => exact ⟨k + 1, by omega, by omega, by go_num, by rw [HX.out.1]; exact HX.out.2, hB1⟩
    case measure => simp [intOf]; omega
  ·have hk3 : k = 3 := by omega
   subst hk3;have HX := zA hown;clear hown hp;go_wp2;go_ret;exact ⟨_, rfl, HX.out, hbw⟩
theorem flat_encI (l : List Int) : zx zu l = l.map (Value.int J) := by
 induction l with
 | nil => rfl
 | cons a t ih =>
  show zu a ++ zx zu t = _
  rw [ih];rfl
theorem zc3.own {w : World} {base : Nat} {v : Value} {l : List Int} (h : zc3 w base v l) : za 3 1 zu w base v l := by
 unfold za
 rw [flat_encI];exact h
theorem zf4 (l : List P3) : zdw l 3 = zr l := by
 unfold zdw zr
 refine List.filter_congr (fun n hn => ?_);have h3 : n < 3 := by simp at hn; omega
 simp [h3]
def zd0 (o : O4) (hs : List Int) : List Q4 := (hs.filter fun n => !inI o.2.2.2 n).map fun n => if o.2.2.1 = true then (4, o.1, n, []) else (1, o.1, n, ofB o.2.1 n)
theorem zm9 (o : O4) : zd0 o (zr o.2.1) = za4 o := rfl
theorem zoy {o : O4} {hs : List Int} {k : Nat} (h : k < hs.length) : zd0 o (hs.take (k + 1)) = zd0 o (hs.take k) ++ (if inI o.2.2.2 hs[k] = true then [] else [if o.2.2.1 = true then (4, o.1, hs[k], []) else (1, o.1, hs[k], ofB o.2.1 hs[k])]) := by
 unfold zd0
 rw [zav h, List.filter_append, List.map_append];congr 1
 cases c : inI o.2.2.2 hs[k] <;> simp [c]
theorem zma (o : O4) (hs : List Int) : (zd0 o hs).length ≤ hs.length := by
 unfold zd0
 rw [List.length_map];exact List.length_filter_le _ _
theorem zdl (l : List P3) : (zr l).length ≤ 3 := List.length_filter_le _ _
theorem zm.len {w : World} {base : Nat} {v : Value} {ms : List Q4} (h : zm w base v ms) : ∃ X : List XM, X.length = ms.length ∧ za 25 4 zb3 w base v X ∧ X.map zce = ms ∧ ∀ x ∈ X, zai base w x.2.2.2.1.1 x.2.2.2.2 := by
 obtain ⟨X, h1, h2, h3⟩ := h;exact ⟨X, by rw [← h2, List.length_map], h1, h2, h3⟩
theorem zm.snoc {w w2 w4 : World} {base : Nat} {X : List XM} {ms : List Q4} {v v4 : Value} {x : XM} (hX : X.map zce = ms) (hT : ∀ y ∈ X, zai base w y.2.2.2.1.1 y.2.2.2.2) (hC : zg 90 w w2) (hO : za 25 4 zb3 w2 base v X) (hg : w2.grownBy w4 v.ownBlock) (h4 : za 25 4 zb3 w4 base v4 (X ++ [x])) (hx : zai base w2 x.2.2.2.1.1 x.2.2.2.2) : zm w4 base v4 (ms ++ [zce x]) := by
 have hC2 : zg 90 w2 w4 := zg.grown hg (hO.grownT (by decide));refine ⟨X ++ [x], h4, by rw [List.map_append, hX]; rfl, fun y hy => ?_⟩;rcases List.mem_append.1 hy with hy | hy
 ·exact ((hT y hy).calm hC).calm hC2
 ·rw [List.mem_singleton.1 hy]; exact hx.calm hC2
theorem zj1 (d : Int) (pa : Option Addr) (np pc : Nat) (l : List P3) (dec : Bool) (ha : Option Addr) (nh hc : Nat) (hd : List Int) (w : World) (hnp : np = l.length) (hl : l.length ≤ 4) (hp : zae w pa l) (hnh : nh = hd.length) (hhl : hd.length ≤ 9223372036854775807) (hh : zi 1 zu w ha hd) :
  Calls Tryz.prog 53 #[.agg #[E J d, G pa np pc, .bool dec, G ha nh hc]] w fun e w' => ∃ v', e = .returned v' ∧ zm w' w.heap.size v' (za4 (d, l, dec, hd)) ∧ Z w.heap.size w w' := by
 have HN := zF hnp hl hp hnh hhl hh;clear hnp hl hp hnh hhl hh;have hb0 := zh w (T #[E J d, G pa np pc, .bool dec, G ha nh hc] 58);have hN0 : Blk (w.alloc (T #[E J d, G pa np pc, .bool dec, G ha nh hc] 58)) w.heap.size #[E J d, G pa np pc, .bool dec, G ha nh hc] 58 := Blk.new _ _ _;go_enter Tryz.func53, Tryz.ntmps53
 go_wp2_with fail
 generalize w.alloc (T #[E J d, G pa np pc, .bool dec, G ha nh hc] 58) = W at *;refine (zgd pa l pc np W HN.out.1 HN.out.2.1 (HN.out.2.2.1.below hb0)).mono ?_;rintro e w1 ⟨hv, rfl, hoI, hb1⟩;rw [zf4] at hoI;have hHL := zdl l;have HAll : Q (zd0 (d, l, dec, hd) (zr l) = za4 (d, l, dec, hd)) := zm9 _;generalize zr l = hs at *;obtain ⟨ga, gn, gc, rfl⟩ := hoI.own.slice zaf;have hrow := hoI.own.at zaf;have hgn := hrow.2.1;have HR := zF hrow.1 (hN0.below hb1 hN0.lt) (hb0.trans (hb1.mono hb0.size)) ((HN.out.2.2.1.below hb0).below hb1) ((HN.out.2.2.2.2.2.below hb0).below hb1) hgn;have hgn3 : gn ≤ 3 := by omega
 clear hoI hrow hb1 hb0 hN0 hgn hHL;go_wp2;go_loopw [3, 10] (fun v i w' => ∃ k : Nat, k ≤ gn ∧ i = E J k ∧ Q (zm w' w1.heap.size v (zd0 (d, l, dec, hd) (hs.take k)) ∧ Z w1.heap.size w1 w')) (fun _ i _ => gn - (intOf i).toNat)
 case atStart => exact ⟨0, Nat.zero_le _, rfl, zm.nil _ _, kab _ _⟩
 case round =>
  obtain ⟨k, hk, rfl, hR⟩ := hrel;by_cases hlt : k < gn
  ·have hkh : k < hs.length := by have := HR.out.2.2.2.2.2; omega
   obtain ⟨hM, hbw⟩ := hR.out;have HE : Q (zd0 (d, l, dec, hd) (hs.take (k + 1)) = zd0 (d, l, dec, hd) (hs.take k) ++ (if inI hd hs[k] = true then [] else [if dec = true then (4, d, hs[k], []) else (1, d, hs[k], ofB l hs[k])])) := zoy hkh;have hml := zma (d, l, dec, hd) (hs.take k);rw [List.length_take] at hml;generalize zd0 (d, l, dec, hd) (hs.take k) = ms at *;obtain ⟨X, hXl, hO, hX, hT⟩ := hM.len;obtain ⟨av, nv, cv, rfl⟩ := hO.slice zbu;have hBk := HR.out.2.1.below hbw HR.out.2.1.lt;have c1 := hBk.cell 1;have c3 := hBk.cell 3;simp only [List.getElem?_toArray, List.getElem?_cons_zero, List.getElem?_cons_succ] at c1 c3
   have hBl := hBk.lt;rcases HR.out.1.below hbw with h0 | ⟨g, o, rfl, hg, hcs⟩
   ·rw [h0] at hkh; simp at hkh
   have d0 := hcs k hkh 0 _ rfl;simp only [Nat.mul_one, Nat.add_zero] at d0
   have HW : Q (za 25 4 zb3 wr w1.heap.size (G av nv cv) X ∧ X.map zce = ms ∧ (∀ x ∈ X, zai w1.heap.size wr x.2.2.2.1.1 x.2.2.2.2) ∧ Z w1.heap.size w1 wr ∧ Blk wr w.heap.size #[E J d, G pa np pc, .bool dec, G ha nh hc] 58 ∧ X.length ≤ 3) := ⟨hO, hX, hT, hbw, hBk, by omega⟩;have HM0 := zA hM;clear hR hM hO hX hT hBk hcs hml hXl;generalize hs[k] = x at *;go_wp2_with fail
   refine (zfi ha hd hc nh x wr HN.out.2.2.2.1 HN.out.2.2.2.2.1 (HR.out.2.2.2.2.1.below HW.out.2.2.2.1)).mono ?_;rintro e w2 ⟨rfl, hb2⟩;have hsz := HW.out.2.2.2.1.size;have HB2 := zB hb2 (HW.out.2.2.2.1.trans (hb2.mono hsz));have hBk2 := HW.out.2.2.2.2.1.below hb2 HW.out.2.2.2.2.1.lt;have hs2 := HB2.out.2.size;cases hin : inI hd x
   ·rw [hin, if_neg (by decide)] at HE
    have e0 := hBk2.cell 0;have e1 := hBk2.cell 1;have e2 := hBk2.cell 2;simp only [List.getElem?_toArray, List.getElem?_cons_zero, List.getElem?_cons_succ] at e0 e1 e2
    have hBl2 := hBk2.lt;clear c1 c3 d0 hb2 hin hBl
    cases dec with
    | true =>
     rw [if_pos rfl] at HE;have HO2 := zA (HW.out.1.below HB2.out.1 (kaa _));have hX3 := HW.out.2.2.2.2.2;clear hBk2;go_wp2_with (at_builtin; refine zbi zbu oneM Tryz.underlying41 zfl rfl (by decide) _ rfl _ _ rfl w1.heap.size _ X rfl (HO2.out.below (zh w2 _) (kaa _)) (some ⟨w2.heap.size, 0, U⟩) 1 1 [(4, d, x, (U, 0), [])] rfl rfl (zi.one (Blk.new w2 _ _) rfl) (by unfold maxLen; simp; omega) (by simp; omega) (by simp; omega) ?_; intro a4 n4 c4 w4 jy hn4 jq jw; clear hn4)
     have HF : Q (zm w4 w1.heap.size (G a4 n4 c4) (zd0 (d, l, true, hd) (hs.take (k + 1))) ∧ Z w1.heap.size w1 w4) := by
      refine ⟨?_, ?_⟩
      ·rw [HE.out]
       exact zm.snoc (x := (4, d, x, (U, 0), [])) HW.out.2.1 HW.out.2.2.1 ((zg.below HB2.out.1 (kaa _)).trans (zg.alloc _ _ _)) (HO2.out.below (zh w2 _) (kaa _)) jq jy (Or.inl rfl)
      ·exact (HB2.out.2.alloc hs2 _).grown jq (by simp; omega) HO2.out.base
     clear jy jq jw e0 e1 e2;go_wp2;go_roundw
     case rel => exact ⟨k + 1, by omega, by go_num, HF⟩
     case measure => simp [intOf]; omega
    | false =>
     rw [if_neg (by decide)] at HE;have hX3 := HW.out.2.2.2.2.2;have HK : Q (∀ w', Z w1.heap.size w2 w' → (w'.cell? ⟨w.heap.size, 0, U⟩ = some (E J d) ∧ w'.cell? ⟨w.heap.size, 1, U⟩ = some (G pa np pc))) := fun w' hb => ⟨(hBk2.below hb HR.out.2.1.lt).cell 0, (hBk2.below hb HR.out.2.1.lt).cell 1⟩
     have hX0 : Z w2.heap.size w2 w2.drew := (kab _ _).drew;have hX1 : Z w1.heap.size w2 w2.drew := (kab _ _).drew;have HP2 := zB (HR.out.2.2.2.1.below HB2.out.2) (HW.out.1.below HB2.out.1 (kaa _));clear hBk2 e0 e1;go_upto_region 5 with fail
     clear e2
     go_region_held3 (fun w' => (w'.cell? ⟨w.heap.size, 0, U⟩ = some (E J d) ∧ w'.cell? ⟨w.heap.size, 1, U⟩ = some (G pa np pc))) (
      first
      | (with_reducible exact HK.out _ h4W)
      | (with_reducible exact HK.out _ hHW)
      | (with_reducible exact HK.out _ hHA)
      | (with_reducible exact HK.out _ hX1)
      | (with_reducible exact HK.out _ (kab _ _))) (
      first
      | (refine zet zbu oneM Tryz.underlying41 zfl rfl (by decide) _ rfl _ _ rfl w1.heap.size _ X rfl ((HP2.out.2.below hH (kaa _)).below (zh wH _) (kaa _)) (some ⟨wH.heap.size, 0, U⟩) 1 1 [(1, d, x, (a3, c3), ofB l x)] rfl rfl (zi.one (Blk.new wH _ _) rfl) (by unfold maxLen; simp; omega) (by simp; omega) (by have := hH.size; simp; omega) ?_; intro a4 n4 c4 w4 jy hn4 jq jw; clear hn4; have h4W : Z w1.heap.size w2 w4 := hHA.grown jq (by have := hH.size; simp; omega) HP2.out.2.base)
      | (go_at_call 37; refine (zmr x pa l pc np _ HN.out.1 HN.out.2.1 (HP2.out.1.below hX0)).mono ?_; rintro e wH ⟨v3, rfl, ho3, hb3⟩; obtain ⟨a3, c3, rfl, hT3, -⟩ := ho3.typed; have hH : Z w2.heap.size w2 wH := hX0.trans (hb3.mono hX0.size); have hHW : Z w1.heap.size w2 wH := hH.mono hs2; have hHA := hHW.alloc (by have := hH.size; omega) (T #[E J 1, E J d, E J x, G a3 (ofB l x).length c3] 25)))
     all_goals
      have HF : Q (zm w4 w1.heap.size (G a4 n4 c4) (zd0 (d, l, false, hd) (hs.take (k + 1))) ∧ Z w1.heap.size w1 w4) := by
       refine ⟨?_, ?_⟩
       ·rw [HE.out]
        exact zm.snoc (x := (1, d, x, (a3, c3), ofB l x)) HW.out.2.1 HW.out.2.2.1 (((zg.below HB2.out.1 (kaa _)).trans (zg.below hH (kaa _))).trans (zg.alloc _ _ _)) ((HP2.out.2.below hH (kaa _)).below (zh wH _) (kaa _)) jq jy ((hT3.mono (by have := hX0.size; omega)).calm (zg.alloc _ _ _))
       ·exact ((HB2.out.2.trans (hH.mono hs2)).alloc (by have := hH.size; omega) _).grown jq (by have := hH.size; simp; omega) (HP2.out.2).base
      clear jy jq jw;go_wp2;go_roundw
      case rel => exact ⟨k + 1, by omega, by go_num, HF⟩
      case measure => simp [intOf]; omega
   ·rw [hin, if_pos rfl, List.append_nil] at HE
    have HF : Q (zm w2 w1.heap.size (G av nv cv) (zd0 (d, l, dec, hd) (hs.take (k + 1))) ∧ Z w1.heap.size w1 w2) := ⟨by rw [HE.out]; exact HM0.out.below HB2.out.1, HB2.out.2⟩;clear c1 c3 d0 hb2 hin hBl hBk2;go_wp2;go_roundw
    case rel => exact ⟨k + 1, by omega, by go_num, HF⟩
    case measure => simp [intOf]; omega
  ·have HF : Q (zm wr w1.heap.size u3 (za4 (d, l, dec, hd)) ∧ Z w1.heap.size w1 wr) := by
    have := hR.out;rwa [kac (by have := HR.out.2.2.2.2.2; omega), HAll.out] at this
   clear hR;go_wp2;go_ret;exact ⟨_, rfl, HF.out.1.mono HR.out.2.2.1.size, HR.out.2.2.1.trans (HF.out.2.mono HR.out.2.2.1.size)⟩
theorem zo5 {α β : Type} {X : List α} {k : Nat} (h : k < X.length) (f : α → β) : (X.take (k + 1)).map f = (X.take k).map f ++ [f X[k]] := by rw [zav h, List.map_append]; rfl
theorem zm.app {w w2 w4 : World} {base : Nat} {X jz : List XM} {ms zs : List Q4} {v v4 : Value} (hX : X.map zce = ms) (hT : ∀ y ∈ X, zai base w y.2.2.2.1.1 y.2.2.2.2) (hC : zg 90 w w2) (hO : za 25 4 zb3 w2 base v X) (hg : w2.grownBy w4 v.ownBlock) (h4 : za 25 4 zb3 w4 base v4 (X ++ jz)) (hZ : jz.map zce = zs) (hx : ∀ y ∈ jz, zai base w2 y.2.2.2.1.1 y.2.2.2.2) : zm w4 base v4 (ms ++ zs) := by
 have hC2 : zg 90 w2 w4 := zg.grown hg (hO.grownT (by decide));refine ⟨X ++ jz, h4, by rw [List.map_append, hX, hZ], fun y hy => ?_⟩;rcases List.mem_append.1 hy with hy | hy
 ·exact ((hT y hy).calm hC).calm hC2
 ·exact (hx y hy).calm hC2
theorem zf5 (o : O4) : (za4 o).length ≤ 3 := by rw [← zm9]; exact Nat.le_trans (zma _ _) (zdl _)
theorem zgs (o : O4) : (za3 o).length ≤ 3 := by unfold za3; rw [List.length_map]; exact zdl _
theorem zf8 {f : O4 → List Q4} (hf : ∀ o, (f o).length ≤ 3) : ∀ (O : List O4), (O.flatMap f).length ≤ 3 * O.length
 | [] => by simp
 | o :: t => by
  have ih := zf8 hf t;have := hf o;rw [List.flatMap_cons, List.length_append, List.length_cons];omega
theorem zkn {f : O4 → List Q4} {O : List O4} {k : Nat} (h : k < O.length) : (O.take (k + 1)).flatMap f = (O.take k).flatMap f ++ f O[k] := by rw [zav h, List.flatMap_append]; simp
theorem zky (d : Int) (pa : Option Addr) (np pc : Nat) (l : List P3) (dec : Bool) (ha : Option Addr) (nh hc : Nat) (hd : List Int) (w : World) (hnp : np = l.length) (hl : l.length ≤ 4) (hp : zae w pa l) :
  Calls Tryz.prog 50 #[.agg #[E J d, G pa np pc, .bool dec, G ha nh hc]] w fun e w' => ∃ v', e = .returned v' ∧ zm w' w.heap.size v' (za3 (d, l, dec, hd)) ∧ Z w.heap.size w w' := by
 have HN := zC hnp hl hp;clear hnp hl hp;have hb0 := zh w (T #[E J d, G pa np pc, .bool dec, G ha nh hc] 58);have hN0 : Blk (w.alloc (T #[E J d, G pa np pc, .bool dec, G ha nh hc] 58)) w.heap.size #[E J d, G pa np pc, .bool dec, G ha nh hc] 58 := Blk.new _ _ _;go_enter Tryz.func50, Tryz.ntmps50
 go_wp2_with fail
 generalize w.alloc (T #[E J d, G pa np pc, .bool dec, G ha nh hc] 58) = W at *;refine (zgd pa l pc np W HN.out.1 HN.out.2.1 (HN.out.2.2.below hb0)).mono ?_;rintro e w1 ⟨hv, rfl, hoI, hb1⟩;rw [zf4] at hoI;have hHL := zdl l;have HAll : Q ((zr l).map (fun n => ((5, d, n, []) : Q4)) = za3 (d, l, dec, hd)) := rfl;generalize zr l = hs at *;obtain ⟨ga, gn, gc, rfl⟩ := hoI.own.slice zaf;have hrow := hoI.own.at zaf;have hgn := hrow.2.1;have HR := zD hrow.1 (hN0.below hb1 hN0.lt) (hb0.trans (hb1.mono hb0.size)) hgn;have hgn3 : gn ≤ 3 := by omega
 clear hoI hrow hb1 hb0 hN0 hgn hHL;go_wp2;go_loopw [3, 10] (fun v i w' => ∃ k : Nat, k ≤ gn ∧ i = E J k ∧ Q (zm w' w1.heap.size v ((hs.take k).map (fun n => ((5, d, n, []) : Q4))) ∧ Z w1.heap.size w1 w')) (fun _ i _ => gn - (intOf i).toNat)
 case atStart => exact ⟨0, Nat.zero_le _, rfl, zm.nil _ _, kab _ _⟩
 case round =>
  obtain ⟨k, hk, rfl, hR⟩ := hrel;by_cases hlt : k < gn
  ·have hkh : k < hs.length := by have := HR.out.2.2.2; omega
   obtain ⟨hM, hbw⟩ := hR.out;have HE : Q ((hs.take (k + 1)).map (fun n => ((5, d, n, []) : Q4)) = (hs.take k).map (fun n => ((5, d, n, []) : Q4)) ++ [(5, d, hs[k], [])]) := zo5 hkh _;have hml : ((hs.take k).map (fun n => ((5, d, n, []) : Q4))).length ≤ k := by simp; omega
   generalize (hs.take k).map (fun n => ((5, d, n, []) : Q4)) = ms at *;obtain ⟨X, hXl, hO, hX, hT⟩ := hM.len;obtain ⟨av, nv, cv, rfl⟩ := hO.slice zbu;have hBk := HR.out.2.1.below hbw HR.out.2.1.lt;have c0 := hBk.cell 0;simp only [List.getElem?_toArray, List.getElem?_cons_zero] at c0
   have hBl := hBk.lt;rcases HR.out.1.below hbw with h0 | ⟨g, o, rfl, hg, hcs⟩
   ·rw [h0] at hkh; simp at hkh
   have d0 := hcs k hkh 0 _ rfl;simp only [Nat.mul_one, Nat.add_zero] at d0
   have HW := zD hO hX hT hbw;have hX3 : X.length ≤ 3 := by omega
   have hsz := hbw.size;clear hR hM hO hX hT hBk hcs hml hXl hbw;generalize hs[k] = x at *;go_wp2_with (at_builtin; refine zbi zbu oneM Tryz.underlying41 zfl rfl (by decide) _ rfl _ _ rfl w1.heap.size _ X rfl (HW.out.1.below (zh wr _) (kaa _)) (some ⟨wr.heap.size, 0, U⟩) 1 1 [(5, d, x, (U, 0), [])] rfl rfl (zi.one (Blk.new wr _ _) rfl) (by unfold maxLen; simp; omega) (by simp; omega) (by simp; omega) ?_; intro a4 n4 c4 w4 jy hn4 jq jw; clear hn4)
   have HF : Q (zm w4 w1.heap.size (G a4 n4 c4) ((hs.take (k + 1)).map (fun n => ((5, d, n, []) : Q4))) ∧ Z w1.heap.size w1 w4) := by
    refine ⟨?_, ?_⟩
    ·rw [HE.out]
     exact zm.snoc (x := (5, d, x, (U, 0), [])) HW.out.2.1 HW.out.2.2.1 (zg.alloc _ _ _) (HW.out.1.below (zh wr _) (kaa _)) jq jy (Or.inl rfl)
    ·exact (HW.out.2.2.2.alloc hsz _).grown jq (by simp; omega) HW.out.1.base
   clear jy jq jw c0 d0;go_wp2;go_roundw
   case rel => exact ⟨k + 1, by omega, by go_num, HF⟩
   case measure => simp [intOf]; omega
  ·have HF : Q (zm wr w1.heap.size u3 (za3 (d, l, dec, hd)) ∧ Z w1.heap.size w1 wr) := by
    have := hR.out;rwa [kac (by have := HR.out.2.2.2; omega), HAll.out] at this
   clear hR;go_wp2;go_ret;exact ⟨_, rfl, HF.out.1.mono HR.out.2.2.1.size, HR.out.2.2.1.trans (HF.out.2.mono HR.out.2.2.1.size)⟩
structure zfs (w : World) (a : Option Addr) (n : Nat) (X : List XO) (O : List O4) : Prop where
 n : n = X.length
 lies : zfm w a X
 says : X.map zw = O
theorem zfs.below {w w' : World} {a : Option Addr} {n : Nat} {X : List XO} {O : List O4} (h : zfs w a n X O) (hb : Z w.heap.size w w') : zfs w' a n X O := ⟨h.n, h.lies.below hb, h.says⟩
def zcf (O : List O4) : Prop := O.length ≤ 100000 ∧ ∀ o ∈ O, o.2.1.length ≤ 4 ∧ o.2.2.2.length ≤ 100000
theorem zbh.opns {R : Nat → Prop} {w : World} {la : Option Addr} {nl : Nat} {Y : List XL} {oa : Option Addr} {no : Nat} {X : List XO} {L : List R3} {O : List O4} (F : zbh R w la nl Y oa no X L O) : zfs w oa no X O :=
 ⟨F.on, ⟨F.opn, fun x hx => ⟨(F.oparts x hx).1.1, (F.oparts x hx).2.1⟩⟩, F.osays⟩
theorem zlp (la oa : Option Addr) (nl lc no oc : Nat) (bt nx : Int) (X : List XO) (O : List O4) (w : World) (h : zfs w oa no X O) (hf : zcf O) :
  Calls Tryz.prog 19 #[.agg #[G la nl lc, E J bt, E J nx, G oa no oc]] w fun e w' => ∃ v', e = .returned v' ∧ zm w' w.heap.size v' (O.flatMap za4) ∧ Z w.heap.size w w' := by
 have HN : Q (zfs w oa no X O ∧ zcf O ∧ X.length = O.length) := ⟨h, hf, by rw [← h.says, List.length_map]⟩;have hnl : no ≤ 100000 := by have h1 := h.n; have h2 := hf.1; have h3 := HN.out.2.2; omega
 clear h hf;have hb0 := zh w (T #[G la nl lc, E J bt, E J nx, G oa no oc] 29);go_enter Tryz.func19, Tryz.ntmps19
 go_wp2;generalize w.alloc (T #[G la nl lc, E J bt, E J nx, G oa no oc] 29) = W at *;go_loopw [3, 9] (fun v i w' => ∃ k : Nat, k ≤ no ∧ i = E J k ∧ Q (zm w' w.heap.size v ((O.take k).flatMap za4) ∧ Z w.heap.size w w')) (fun _ i _ => no - (intOf i).toNat)
 case atStart => exact ⟨0, Nat.zero_le _, rfl, zm.nil _ _, hb0⟩
 case round =>
  obtain ⟨k, hk, rfl, hR⟩ := hrel;by_cases hlt : k < no
  ·have hkX : k < X.length := by have := HN.out.1.n; omega
   have hkO : k < O.length := by have := HN.out.2.2; omega
   obtain ⟨hM, hbw⟩ := hR.out;have HE : Q ((O.take (k + 1)).flatMap za4 = (O.take k).flatMap za4 ++ za4 O[k]) := zkn hkO;have hml : ((O.take k).flatMap za4).length ≤ 300000 := by have h1 := zf8 zf5 (O.take k); rw [List.length_take] at h1; omega
   have hsz := hbw.size;generalize (O.take k).flatMap za4 = ms at *;obtain ⟨jz, hZl, hO, hZ, hT⟩ := hM.len;obtain ⟨av, nv, cv, rfl⟩ := hO.slice zbu;obtain ⟨g, o, rfl, hg, d0, d1, d2, d3, hq⟩ := (HN.out.1.lies.below hbw).get hkX
   have hOk : O[k] = zw X[k] := by
    have : O = X.map zw := HN.out.1.says.symm;subst this;rw [List.getElem_map]
   have hfk := HN.out.2.1.2 O[k] (List.getElem_mem hkO);rw [hOk] at hfk HE;generalize X[k] = x at *;obtain ⟨dd, ⟨⟨pa, pc⟩, l⟩, dec, ⟨ha, hc⟩, hd⟩ := x;simp only [zw] at d0 d1 d2 d3 hq hfk HE
   have HW : Q (za 25 4 zb3 wr w.heap.size (G av nv cv) jz ∧ jz.map zce = ms ∧ (∀ x ∈ jz, zai w.heap.size wr x.2.2.2.1.1 x.2.2.2.2) ∧ Z w.heap.size w wr ∧ zae wr pa l ∧ zi 1 zu wr ha hd ∧ l.length ≤ 4 ∧ hd.length ≤ 100000) := ⟨hO, hZ, hT, hbw, hq.1, hq.2, hfk.1, hfk.2⟩;have HLL : ∃ ln hn, Q (l.length = ln ∧ hd.length = hn) := ⟨_, _, rfl, rfl⟩;obtain ⟨ln, hn, HLL⟩ := HLL;rw [HLL.out.1] at d1;rw [HLL.out.2] at d3;have hZ3 : jz.length ≤ 300000 := by omega
   clear hR hM hO hZ hT hbw hq hfk hOk hkO hkX hml hZl;go_wp2_with fail
   have hbA := zh wr (T #[E J dd, G pa ln pc, .bool dec, G ha hn hc] 58);have hsA : (wr.alloc (T #[E J dd, G pa ln pc, .bool dec, G ha hn hc] 58)).heap.size = wr.heap.size + 1 := by simp
   generalize wr.alloc (T #[E J dd, G pa ln pc, .bool dec, G ha hn hc] 58) = A at *;refine (zj1 dd pa ln pc l dec ha hn hc hd A HLL.out.1.symm HW.out.2.2.2.2.2.2.1 (HW.out.2.2.2.2.1.below hbA) HLL.out.2.symm (by have := HW.out.2.2.2.2.2.2.2; omega) (HW.out.2.2.2.2.2.1.below hbA)).mono ?_;rintro e w2 ⟨v2, rfl, hM2, hb2⟩;have hml2 := zf5 (dd, l, dec, hd);obtain ⟨zX, hUl, hU, hUs, hUT⟩ := hM2.len;obtain ⟨a2, n2, c2, rfl⟩ := hU.slice zbu;have hUr := hU.at zbu;have HU := zE hUs hUT hUr.2.1 hUr.1 (hbA.trans (hb2.mono (by omega)));have hU3 : zX.length ≤ 3 := by omega
   have hs2 : wr.heap.size + 1 ≤ w2.heap.size := by have := hb2.size; omega
   clear hM2 hU hUs hUT hUr hb2 hbA hUl hml2 d0 d1 d2 d3;go_wp2_with (at_builtin; refine zbi zbu oneM Tryz.underlying41 zfl rfl (by decide) _ rfl _ _ rfl w.heap.size _ jz rfl (HW.out.1.below HU.out.2.2.2.2 (kaa _)) a2 n2 c2 zX rfl HU.out.2.2.1 HU.out.2.2.2.1 (by unfold maxLen; omega) (by omega) (by omega) ?_; intro a4 n4 c4 w4 jy hn4 jq jw; clear hn4)
   have HF : Q (zm w4 w.heap.size (G a4 n4 c4) ((O.take (k + 1)).flatMap za4) ∧ Z w.heap.size w w4) := by
    refine ⟨?_, ?_⟩
    ·rw [HE.out]
     exact zm.app HW.out.2.1 HW.out.2.2.1 (zg.below HU.out.2.2.2.2 (kaa _)) (HW.out.1.below HU.out.2.2.2.2 (kaa _)) jq jy HU.out.1 (fun y hy => (HU.out.2.1 y hy).mono (by omega))
    ·exact (HW.out.2.2.2.1.trans (HU.out.2.2.2.2.mono hsz)).grown jq (by omega) HW.out.1.base
   clear jy jq jw;go_wp2;go_roundw
   case rel => exact ⟨k + 1, by omega, by go_num, HF⟩
   case measure => simp [intOf]; omega
  ·have HF : Q (zm wr w.heap.size u3 (O.flatMap za4) ∧ Z w.heap.size w wr) := by
    have := hR.out;rwa [kac (by have h1 := HN.out.1.n; have h2 := HN.out.2.2; omega)] at this
   clear hR;go_wp2;go_ret;exact ⟨_, rfl, HF.out.1, HF.out.2⟩
end Go.Proofs.YtpcnlifmkhagkaaGreat
