import Derived.Test.YtpcnlifmkhagkaaGreatKFJ09
import Derived.Test.YtpcnlifmkhagkaaGreatKFShelf
import Derived.Lib.OwnBridge
import Derived.Sort.Grow
set_option maxRecDepth 20000
set_option maxHeartbeats 20000000
namespace Go.Proofs.YtpcnlifmkhagkaaGreat
open Go.RowKit
open Go.Value renaming slice → G, int → E
open Go.IntKind renaming i64 → J
open _root_.Option renaming none → U
open Go.Obj renaming cells → T
open Go.RowKit renaming Hid → Q, Below → Z
open _root_.Nat renaming le_refl → kaa
open _root_.List renaming take_of_length_le → kab
def ofP (l : List P3) (i : Nat) : List P3 := l.filter fun p => decide (p.1 = (i : Int))
def zhm (l : List P3) : Nat → List S4 → Int
 | _, [] => 0
 | i, s :: t => if zcq s (ofP l i) = 0 then zhm l (i + 1) t else zcq s (ofP l i)
def zf5 (l : List P3) : Nat → List S4 → List S4
 | _, [] => []
 | i, s :: t => doB s (ofP l i) :: zf5 l (i + 1) t
def errM (S : List S4) (l : List P3) : Int := zhm l 0 S
def doM (S : List S4) (l : List P3) : List S4 := if errM S l = 0 then zf5 l 0 S else S
def zei (S : List S4) : List (List P3) → List S4
 | [] => S
 | l :: t => zei (doM S l) t
def zg6 (S : List S4) : List (List P3) → List Int
 | [] => []
 | l :: t => errM S l :: zg6 (doM S l) t
theorem zih (l : List P3) : ∀ (i : Nat) (S : List S4), (zf5 l i S).length = S.length
 | _, [] => rfl
 | i, s :: t => by simp only [zf5, List.length_cons]; rw [zih l (i + 1) t]
theorem doM_len (S : List S4) (l : List P3) : (doM S l).length = S.length := by
 unfold doM; split
 ·exact zih _ _ _
 ·rfl
theorem zks (l : List P3) : ∀ (i : Nat) (S : List S4) (k : Nat) (h : k < S.length) (h' : k < (zf5 l i S).length), (zf5 l i S)[k] = doB S[k] (ofP l (i + k))
 | i, s :: t, 0, _, _ => rfl
 | i, s :: t, k + 1, h, h' => by
  simp only [zf5, List.getElem_cons_succ]
  rw [zks l (i + 1) t k (by simpa using h) (by rw [zih]; simpa using h)];rw [show i + 1 + k = i + (k + 1) by omega]
theorem zjd {l : List P3} : ∀ {i : Nat} {S : List S4}, zhm l i S = 0 ↔ ∀ k (h : k < S.length), zcq S[k] (ofP l (i + k)) = 0
 | i, [] => by simp [zhm]
 | i, s :: t => by
  simp only [zhm]
  constructor
  ·intro h
   split at h
   ·rename_i h0
    intro k hk
    cases k with
    | zero => simpa using h0
    | succ k =>
     have := (zjd (i := i + 1) (S := t)).1 h k (by simpa using hk);simp only [List.getElem_cons_succ]
     rw [show i + (k + 1) = i + 1 + k by omega]; exact this
   ·rename_i h0; exact absurd h h0
  ·intro h
   have h0 := h 0 (by simp);rw [Nat.add_zero] at h0;rw [if_pos (show zcq s (ofP l i) = 0 from h0)];refine (zjd (i := i + 1) (S := t)).2 fun k hk => ?_
   have := h (k + 1) (by simpa using hk);simp only [List.getElem_cons_succ] at this
   rw [show i + 1 + k = i + (k + 1) by omega]; exact this
def Apart (a b : List P3) : Prop := ∀ p ∈ a, ∀ q ∈ b, ze3 p q = false
theorem Apart.symm {a b : List P3} (h : Apart a b) : Apart b a := fun q hq p hp => by
 have := h p hp q hq;simp only [ze3, decide_eq_false_iff_not] at this ⊢
 exact fun ⟨x, y⟩ => this ⟨x.symm, y.symm⟩
theorem zkx : ∀ (L : List (List P3)) (S : List S4), (zei S L).length = S.length
 | [], _ => rfl
 | l :: t, S => by simp only [zei]; rw [zkx t, doM_len]
theorem zk3 : ∀ (L : List (List P3)) (S : List S4) (l : List P3), zei S (L ++ [l]) = doM (zei S L) l
 | [], _, _ => rfl
 | _ :: t, S, l => by simp only [List.cons_append, zei]; rw [zk3 t]
theorem zkk : ∀ (L : List (List P3)) (S : List S4) (l : List P3), zg6 S (L ++ [l]) = zg6 S L ++ [errM (zei S L) l]
 | [], _, _ => rfl
 | _ :: t, S, l => by simp only [List.cons_append, zg6, zei]; rw [zkk t]
def zu (l : List P3) : List Int := ([0, 1, 2] : List Int).filter fun n => decide (0 < (ofB l n).length)
structure Gh where
 log : List R3
 boot : Int
 next : Int
 opn : List O4
structure WW where
 hd : Gh
 hs : List (List R3)
 net : List Q4
def zba (o : O4) : List Q4 := ((zu o.2.1).filter fun n => !inI o.2.2.2 n).map fun n => if o.2.2.1 = true then (4, o.1, n, []) else (1, o.1, n, ofB o.2.1 n)
def zbc (o : O4) : List Q4 := (zu o.2.1).map fun n => (5, o.1, n, [])
def zv (L : List R3) : Gh := ⟨L, (zac L).1, 0, (zac L).2.map fun x => (x.1, x.2, true, [])⟩
def zz (g : Gh) : Gh × Int := if 19 < g.boot then (g, 5) else (zv (g.log ++ [(4, 0, [])]), 0)
def zo (g : Gh) (l : List P3) : Gh × List Q4 × Int :=
 if 11 < g.opn.length ∨ 63 < g.next then (g, [], 9)
 else ({ g with opn := g.opn ++ [(64 * g.boot + g.next, l, false, [])], next := g.next + 1 }, zba (64 * g.boot + g.next, l, false, []), 0)
def zx (m : Q4) (o : O4) : Option O4 × List R3 × List Q4 :=
  if m.1 = 2 ∧ o.2.2.1 = false ∧ (inI (zu o.2.1) m.2.2.1 = true ∧ inI o.2.2.2 m.2.2.1 = false) then
    (if (o.2.2.2 ++ [m.2.2.1]).length = (zu o.2.1).length then (some (o.1, o.2.1, true, []), [(5, o.1, o.2.1)], zba (o.1, o.2.1, true, []))
     else (some (o.1, o.2.1, false, o.2.2.2 ++ [m.2.2.1]), [], []))
  else if m.1 = 3 ∧ o.2.2.1 = false then (U, [], zbc o)
  else if m.1 = 6 ∧ o.2.2.1 = true ∧ (inI (zu o.2.1) m.2.2.1 = true ∧ inI o.2.2.2 m.2.2.1 = false) then
    (if (o.2.2.2 ++ [m.2.2.1]).length = (zu o.2.1).length then (U, [(6, o.1, [])], [])
     else (some (o.1, o.2.1, true, o.2.2.2 ++ [m.2.2.1]), [], []))
  else if m.1 = 7 ∧ o.2.2.1 = true then (some o, [], [(4, m.2.1, m.2.2.1, [])])
  else (some o, [], [])
def zb4 (m : Q4) : List O4 → Option (List O4 × List R3 × List Q4)
 | [] => U
 | o :: t => if o.1 = m.2.1 then some ((zx m o).1.toList ++ t, (zx m o).2.1, (zx m o).2.2) else (zb4 m t).map fun x => (o :: x.1, x.2)
def zj (g : Gh) (m : Q4) : Gh × List Q4 :=
 match zb4 m g.opn with
 | some x => ({ g with opn := x.1, log := g.log ++ x.2.1 }, x.2.2)
 | none => (g, if m.1 = 7 then [(5, m.2.1, m.2.2.1, [])] else [])
def ze8 (g : Gh) : List Q4 := g.opn.flatMap zba
def zt (g : Gh) : Gh × List Q4 := ({ g with opn := g.opn.filter fun o => o.2.2.1 }, (g.opn.filter fun o => !o.2.2.1).flatMap zbc)
def zbw (net ms : List Q4) : List Q4 := net ++ ms.take (24 - net.length)
def askW (D : List D2) (me : Int) : List Q4 := D.map fun x => (7, x.1, me, [])
def za3 (n : Nat) : WW := ⟨zv [(4, 0, [])], List.replicate n [], []⟩
def WW.at (W : WW) (k : Int) : List R3 := W.hs.getD k.toNat []
def zd5 (W : WW) (m : Q4) : WW :=
  if m.2.2.1 < W.hs.length then
    (if m.1 = 1 ∨ m.1 = 4 ∨ m.1 = 5 then
      { W with hs := W.hs.set m.2.2.1.toNat (zp (W.at m.2.2.1) m.1 m.2.1 m.2.2.2), net := zbw W.net (zaw (W.at m.2.2.1) m.2.2.1 m.1 m.2.1 m.2.2.2) }
     else { W with hd := (zj W.hd m).1, net := zbw W.net (zj W.hd m).2 })
  else W
def zl (W : WW) (s : Int × Int × List P3) : WW × Int :=
  if s.1 = 1 then
    (if za0 s.2.2 W.hs.length = 0 then ({ W with hd := (zo W.hd s.2.2).1, net := zbw W.net (zo W.hd s.2.2).2.1 }, (zo W.hd s.2.2).2.2) else (W, za0 s.2.2 W.hs.length))
  else if s.1 = 2 ∨ s.1 = 3 ∨ s.1 = 4 then
    (if 0 ≤ s.2.1 then
      (match W.net[s.2.1.toNat]? with
       | none => (W, 6)
       | some m => if s.1 = 4 then ({ W with net := if W.net.length < 24 then W.net ++ [m] else W.net }, 0)
         else if s.1 = 3 then ({ W with net := W.net.eraseIdx s.2.1.toNat }, 0)
         else (zd5 { W with net := W.net.eraseIdx s.2.1.toNat } m, 0))
     else (W, 6))
  else if s.1 = 5 then (if s.2.1 = 3 then ({ W with hd := (zz W.hd).1 }, (zz W.hd).2) else if s.2.1 < 0 ∨ (W.hs.length : Int) ≤ s.2.1 then (W, 6) else (W, 0))
  else if s.1 = 6 then (if s.2.1 = 3 then ({ W with net := zbw W.net (ze8 W.hd) }, 0) else if s.2.1 < 0 ∨ (W.hs.length : Int) ≤ s.2.1 then (W, 6) else ({ W with net := zbw W.net (askW (ze (W.at s.2.1)).2.1 s.2.1) }, 0))
  else if s.1 = 7 then ({ W with hd := (zt W.hd).1, net := zbw W.net (zt W.hd).2 }, 0)
  else (W, 1)
def zav (n : Nat) (l : List (Int × Int × List P3)) : WW := (l.take 150).foldl (fun W s => (zl W s).1) (za3 n)
theorem Blk.cells4 {w : World} {N : Nat} {zV : TypeId} {c0 c1 c2 c3 : Value} (h : Blk w N #[c0, c1, c2, c3] zV) : w.cell? ⟨N, 0, U⟩ = some c0 ∧ w.cell? ⟨N, 1, U⟩ = some c1 ∧ w.cell? ⟨N, 2, U⟩ = some c2 ∧ w.cell? ⟨N, 3, U⟩ = some c3 := ⟨h.cell 0, h.cell 1, h.cell 2, h.cell 3⟩
theorem Blk.free4 {w : World} {N : Nat} {zV : TypeId} {c0 c1 c2 c3 : Value} (h : Blk w N #[c0, c1, c2, c3] zV) : w.frozen? ⟨N, 0, U⟩ = false ∧ w.frozen? ⟨N, 1, U⟩ = false ∧ w.frozen? ⟨N, 2, U⟩ = false ∧ w.frozen? ⟨N, 3, U⟩ = false := ⟨h.free 0, h.free 1, h.free 2, h.free 3⟩
theorem zd.slice {α : Type} {e : TypeId} {size : Nat} {enc : α → List Value} {w : World} {base : Nat} {v : Value} {xs : List α} (he : ∀ x, (enc x).length = size) (h : zd e size enc w base v xs) : ∃ a n c, v = G a n c := by
 obtain ⟨a, c, hv, _⟩ := h.row he;exact ⟨a, _, c, hv⟩
def zc4 (R : Nat → Prop) (w : World) (a : Option Addr) (l : List Int) : Prop := zk 1 zq w a l ∧ Out R a l.length
theorem zc4.keep {R : Nat → Prop} {w w' : World} {a : Option Addr} {l : List Int} (h : zc4 R w a l) (hk : zh R w w') : zc4 R w' a l := ⟨h.1.keepR h.2 hk, h.2⟩
theorem zc4.below {R : Nat → Prop} {w w' : World} {a : Option Addr} {l : List Int} (h : zc4 R w a l) (hb : Z w.heap.size w w') : zc4 R w' a l := h.keep (zdi hb)
theorem zc4.wide {R R' : Nat → Prop} {w : World} {a : Option Addr} {l : List Int} (h : zc4 R w a l) (hR : ∀ b, R' b → R b ∨ w.heap.size ≤ b) : zc4 R' w a l := ⟨h.1, h.1.out h.2 hR⟩
theorem zc4.nil (R : Nat → Prop) (w : World) (a : Option Addr) : zc4 R w a [] := ⟨Or.inl rfl, Or.inl rfl⟩
theorem zd.intsR {w : World} {base : Nat} {a : Option Addr} {n c : Nat} {l : List Int} (h : zd 3 1 zq w base (G a n c) l) {R : Nat → Prop} (hR : ∀ b, R b → b < base) : n = l.length ∧ zc4 R w a l := by
 have h1 := h.at zal;exact ⟨h1.2.1, h1.1, h.outR hR _⟩
theorem zam.outR {base : Nat} {w : World} {a : Option Addr} {l : List P3} (h : zam base w a l) {R : Nat → Prop} (hR : ∀ b, R b → b < base) : zaf R w a l := by
 refine ⟨h.at, ?_⟩;rcases h with rfl | ⟨b, o, cs, rfl, hb, -, -⟩
 ·exact Or.inl rfl
 ·refine Or.inr (fun ad had hr => ?_)
  cases had;have h' : b < base := hR _ hr;omega
def OpR (R : Nat → Prop) (w : World) (x : XO) : Prop := zaf R w x.2.1.1.1 x.2.1.2 ∧ zc4 R w x.2.2.2.1.1 x.2.2.2.2
theorem OpR.keep {R : Nat → Prop} {w w' : World} {x : XO} (h : OpR R w x) (hk : zh R w w') : OpR R w' x := ⟨h.1.keep hk, h.2.keep hk⟩
theorem OpR.below {R : Nat → Prop} {w w' : World} {x : XO} (h : OpR R w x) (hb : Z w.heap.size w w') : OpR R w' x := h.keep (zdi hb)
theorem OpR.wide {R R' : Nat → Prop} {w : World} {x : XO} (h : OpR R w x) (hR : ∀ b, R' b → R b ∨ w.heap.size ≤ b) : OpR R' w x := ⟨h.1.wide hR, h.2.wide hR⟩
structure zbd (R : Nat → Prop) (w : World) (la : Option Addr) (nl : Nat) (Y : List XL) (oa : Option Addr) (no : Nat) (X : List XO) (L : List R3) (O : List O4) : Prop where
 ln : nl = Y.length
 log : zk 3 zak w la Y
 lout : Out R la Y.length
 says : Y.map zf = L
 parts : ∀ y ∈ Y, zaf R w y.2.2.1.1 y.2.2.2
 on : no = X.length
 opn : zk 4 zan w oa X
 oout : Out R oa X.length
 osays : X.map zw = O
 oparts : ∀ x ∈ X, OpR R w x
section
variable {R R' : Nat → Prop} {w w' : World} {la : Option Addr} {nl : Nat} {Y : List XL} {oa : Option Addr} {no : Nat} {X : List XO} {L : List R3} {O : List O4}
theorem zbd.keep (H : zbd R w la nl Y oa no X L O) (hk : zh R w w') : zbd R w' la nl Y oa no X L O :=
 ⟨H.ln, H.log.keepR H.lout hk, H.lout, H.says, fun y hy => (H.parts y hy).keep hk, H.on, H.opn.keepR H.oout hk, H.oout, H.osays, fun x hx => (H.oparts x hx).keep hk⟩
theorem zbd.below (H : zbd R w la nl Y oa no X L O) (hb : Z w.heap.size w w') : zbd R w' la nl Y oa no X L O := H.keep (zdi hb)
theorem zbd.wide (H : zbd R w la nl Y oa no X L O) (hR : ∀ b, R' b → R b ∨ w.heap.size ≤ b) : zbd R' w la nl Y oa no X L O :=
 ⟨H.ln, H.log, H.log.out H.lout hR, H.says, fun y hy => (H.parts y hy).wide hR, H.on, H.opn, H.opn.out H.oout hR, H.osays, fun x hx => (H.oparts x hx).wide hR⟩
end
def zaa (R : Nat → Prop) (w : World) (v : Value) (g : Gh) : Prop :=
 ∃ (la : Option Addr) (nl lc : Nat) (Y : List XL) (oa : Option Addr) (no oc : Nat) (X : List XO),
  v = .agg #[G la nl lc, E J g.boot, E J g.next, G oa no oc] ∧ zbd R w la nl Y oa no X g.log g.opn
theorem zaa.keep {R : Nat → Prop} {w w' : World} {v : Value} {g : Gh} (H : zaa R w v g) (hk : zh R w w') : zaa R w' v g := by
 obtain ⟨la, nl, lc, Y, oa, no, oc, X, hv, hf⟩ := H;exact ⟨la, nl, lc, Y, oa, no, oc, X, hv, hf.keep hk⟩
theorem zaa.below {R : Nat → Prop} {w w' : World} {v : Value} {g : Gh} (H : zaa R w v g) (hb : Z w.heap.size w w') : zaa R w' v g := H.keep (zdi hb)
theorem zaa.wide {R R' : Nat → Prop} {w : World} {v : Value} {g : Gh} (H : zaa R w v g) (hR : ∀ b, R' b → R b ∨ w.heap.size ≤ b) : zaa R' w v g := by
 obtain ⟨la, nl, lc, Y, oa, no, oc, X, hv, hf⟩ := H;exact ⟨la, nl, lc, Y, oa, no, oc, X, hv, hf.wide hR⟩
theorem zaa.g {R : Nat → Prop} {w : World} {v : Value} {g : Gh} (H : zaa R w v g) : zgv w v g.log g.boot g.next g.opn := by
 obtain ⟨la, nl, lc, Y, oa, no, oc, X, hv, F⟩ := H;exact ⟨la, nl, lc, Y, oa, no, oc, X, hv, ⟨by rw [F.ln, ← F.says, List.length_map], F.says, F.log, fun y hy => (F.parts y hy).1⟩, F.on, F.osays, F.opn, fun x hx => ⟨(F.oparts x hx).1.1, (F.oparts x hx).2.1⟩⟩
def zm (w : World) (base : Nat) (v : Value) (ms : List Q4) : Prop := ∃ X : List XM, zd 25 4 zcf w base v X ∧ X.map zde = ms ∧ ∀ x ∈ X, zam base w x.2.2.2.1.1 x.2.2.2.2
theorem zm.nil (w : World) (base : Nat) : zm w base (G U 0 0) [] := ⟨[], zd.nil _ _, rfl, fun x hx => by cases hx⟩
theorem zm.below {w w' : World} {base : Nat} {v : Value} {ms : List Q4} (h : zm w base v ms) (hb : Z w.heap.size w w') : zm w' base v ms := by
 obtain ⟨X, h1, h2, h3⟩ := h;exact ⟨X, h1.below hb (kaa _), h2, fun x hx => (h3 x hx).calm (zi.below hb (kaa _))⟩
theorem zm.mono {w : World} {base base' : Nat} {v : Value} {ms : List Q4} (h : zm w base v ms) (hb : base' ≤ base) : zm w base' v ms := by
 obtain ⟨X, h1, h2, h3⟩ := h;exact ⟨X, h1.mono hb, h2, fun x hx => (h3 x hx).mono hb⟩
theorem zm.v {w : World} {base : Nat} {v : Value} {ms : List Q4} (h : zm w base v ms) {R : Nat → Prop} (hR : ∀ b, R b → b < base) : zat R w v ms := by
 obtain ⟨X, h1, h2, h3⟩ := h;obtain ⟨a, c, rfl, hr, _, _⟩ := h1.row zby
 exact ⟨a, _, c, X, rfl, rfl, hr, h1.outR hR _, h2, fun x hx => (h3 x hx).outR hR⟩
theorem zqk (h k n H : Int) (b : Nat) (w : World) (hb : b < w.heap.size) (c0 : w.cell? ⟨b, 0, U⟩ = some (E J H)) :
  Calls Tryz.prog 113 #[.agg #[E J h, E J k, E J n], .pointer (some ⟨b, 0, U⟩)] w fun e w' => e = .returned (.bool (decide (h = H))) ∧ Z w.heap.size w w' := by
 go_enter Tryz.func113, Tryz.ntmps113
 go_wp2
 all_goals
  go_ret;refine ⟨zgh ?_, zg _ _⟩;rw [Bool.eq_iff_iff]; simp_all
theorem ofB_yes (l : List P3) (p : P3) (H : Int) (h : p.1 = H) : ofB (l ++ [p]) H = ofB l H ++ [p] := by simp [ofB, List.filter_append, h]
theorem ofB_no (l : List P3) (p : P3) (H : Int) (h : ¬ p.1 = H) : ofB (l ++ [p]) H = ofB l H := by simp [ofB, List.filter_append, h]
theorem keep_any (H : Int) (b : Nat) (a : Option Addr) (l : List P3) (cap n : Nat) (w : World) (hn : n = l.length) (hl : l.length ≤ 4) (hp : zai w a l) (hb : b < w.heap.size) (c0 : w.cell? ⟨b, 0, U⟩ = some (E J H)) :
  Calls Tryz.prog 112 #[G a n cap, .func (.func 113) #[] #[.pointer (some ⟨b, 0, U⟩)]] w fun e w' => ∃ v, e = .returned v ∧ zb2 w' w.heap.size v (ofB l H) ∧ Z w.heap.size w w' := by
 subst hn;go_enter Tryz.func112, Tryz.ntmps112
 go_wp2;go_loopw [5, 10] (fun v i w' => ∃ k : Nat, k ≤ l.length ∧ i = E J k ∧ zb2 w' w.heap.size v (ofB (l.take k) H) ∧ Z w.heap.size w w') (fun _ i _ => l.length - (intOf i).toNat)
 case atStart => exact ⟨0, Nat.zero_le _, rfl, World.ownsRow_nil _ _ _ _, Below.refl _ _⟩
 case round =>
  obtain ⟨k, hk, rfl, jx, hbw⟩ := hrel;by_cases hlt : k < l.length
  ·rcases hp with rfl | ⟨b', o, rfl, hb', hc⟩
   ·simp at hlt
   obtain ⟨d0, d1, d2⟩ := hc k hlt;clear hc;obtain ⟨hcc, hff⟩ := zc1 hbw;have hsz := hbw.size;go_wp2_with fail
   refine (zqk _ _ _ H b _ (by simp; omega) (by rw [Below.cell (zg wr _) (by show b < _; omega), hcc _ _ hb]; exact c0)).mono ?_;rintro e w1 ⟨rfl, hb1⟩;have hbr := (zg wr _).trans (hb1.mono (by simp));have hB1 := hbw.trans (hbr.mono hsz);have hsz1 : wr.heap.size + 1 ≤ w1.heap.size := by have := hb1.size; simpa using this
   have hown1 := jx.below hbr (kaa _);obtain ⟨hcc1, hff1⟩ := zc1 hb1;have q0 : w1.cell? ⟨wr.heap.size, 0, U⟩ = some (E J l[k].1) := by rw [hcc1 _ _ (by simp)]; simp
   have q1 : w1.cell? ⟨wr.heap.size, 1, U⟩ = some (E J l[k].2.1) := by rw [hcc1 _ _ (by simp)]; simp
   have q2 : w1.cell? ⟨wr.heap.size, 2, U⟩ = some (E J l[k].2.2) := by rw [hcc1 _ _ (by simp)]; simp
   have hle : (ofB (l.take k) H).length ≤ 1000000 := by
    have h1 : (ofB (l.take k) H).length ≤ (l.take k).length := List.length_filter_le _ _;have h2 := List.length_take_le k l;omega
   clear hcc1 hff1 hcc hff jx d0 d1 d2 c0 hb1;by_cases hs : l[k].1 = H
   ·have hd : decide (l[k].1 = H) = true := by simpa using hs
    have HE : Q (ofB (l.take (k + 1)) H = ofB (l.take k) H ++ [l[k]]) := by show _ = _; rw [zax hlt]; exact ofB_yes _ _ _ hs
    rw [hd];clear hs hd;go_wp2_with (at_builtin; refine zk8 _ rfl _ _ rfl w.heap.size _ _ rfl (hown1.below (zg w1 _) (kaa _)) w1.heap.size l[k] rfl (by exact heap_alloc_new w1 _) hle (by have := hB1.size; simp; omega) ?_; intro g cap' w2 hown2 qz hat hlt2)
    have hB2 : Z w.heap.size w w2 := (hB1.trans ((zg w1 _).mono hB1.size)).grown qz (by have := hB1.size; simp; omega) (fun j hj => by
     rcases hown1.2 with ⟨hv, _⟩ | ⟨g', cap'', cur, hv, hg', _⟩
     ·rw [hv] at hj; cases hj
     ·rw [hv] at hj; cases hj; exact hg')
    clear hown1 qz hat q0 q1 q2 hbr;go_wp2;go_roundw
    case rel =>
     refine ⟨k + 1, by omega, by go_num, ?_, hB2⟩;rw [HE.out];exact hown2
    case measure => simp [intOf]; omega
   ·have hd : decide (l[k].1 = H) = false := by simpa using hs
    have HE : Q (ofB (l.take (k + 1)) H = ofB (l.take k) H) := by show _ = _; rw [zax hlt]; exact ofB_no _ _ _ hs
    rw [hd];clear hs hd;go_wp2;go_roundw
    case rel =>
     refine ⟨k + 1, by omega, by go_num, ?_, hB1⟩;rw [HE.out];exact hown1
    case measure => simp [intOf]; omega
  ·have HE : Q (l.take k = l) := by show _ = _; rw [kab (by omega)]
   clear hp;go_wp2;go_ret;exact ⟨_, rfl, by rw [HE.out] at jx; exact jx, hbw⟩
theorem of_any (H : Int) (a : Option Addr) (l : List P3) (cap n : Nat) (w : World) (hn : n = l.length) (hl : l.length ≤ 4) (hp : zai w a l) :
  Calls Tryz.prog 82 #[G a n cap, E J H] w fun e w' => ∃ v, e = .returned v ∧ zb2 w' w.heap.size v (ofB l H) ∧ Z w.heap.size w w' := by
 subst hn;have HC := keep_any H w.heap.size a l cap l.length (w.alloc (T #[E J H] 3)) rfl hl (hp.below (zg w _)) (by simp) (by simp);clear hp;go_enter Tryz.func82, Tryz.ntmps82
 go_wp2_with fail
 refine HC.mono ?_;rintro e w1 ⟨v, rfl, jx, hb1⟩;clear HC;go_wp2;go_ret;refine ⟨_, rfl, ?_, (zg w _).trans (hb1.mono (by simp))⟩;refine ⟨jx.1, ?_⟩;rcases jx.2 with h0 | ⟨g, cap, cur, hv, hg, jj⟩
 ·exact Or.inl h0
 ·exact Or.inr ⟨g, cap, cur, hv, by simp at hg; omega, jj⟩
theorem zky (H : Int) (a : Option Addr) (l : List P3) (cap n : Nat) (w : World) (hn : n = l.length) (hl : l.length ≤ 4) (hp : zai w a l) :
  Calls Tryz.prog 37 #[G a n cap, E J H] w fun e w' => ∃ v, e = .returned v ∧ zb2 w' w.heap.size v (ofB l H) ∧ Z w.heap.size w w' := by
 subst hn;go_enter Tryz.func37, Tryz.ntmps37
 go_wp2;go_loopw [5, 10] (fun v i w' => ∃ k : Nat, k ≤ l.length ∧ i = E J k ∧ zb2 w' w.heap.size v (ofB (l.take k) H) ∧ Z w.heap.size w w') (fun _ i _ => l.length - (intOf i).toNat)
 case atStart => exact ⟨0, Nat.zero_le _, rfl, World.ownsRow_nil _ _ _ _, Below.refl _ _⟩
 case round =>
  obtain ⟨k, hk, rfl, jx, hbw⟩ := hrel;by_cases hlt : k < l.length
  ·rcases hp with rfl | ⟨b', o, rfl, hb', hc⟩
   ·simp at hlt
   obtain ⟨d0, d1, d2⟩ := hc k hlt;clear hc;obtain ⟨hcc, hff⟩ := zc1 hbw;have hsz := hbw.size
   have hle : (ofB (l.take k) H).length ≤ 1000000 := by
    have h1 : (ofB (l.take k) H).length ≤ (l.take k).length := List.length_filter_le _ _;have h2 := List.length_take_le k l;omega
   by_cases hs : l[k].1 = H
   ·have hd : (l[k].1 == H) = true := by simpa using hs
    have HE : ofB (l.take (k + 1)) H = ofB (l.take k) H ++ [l[k]] := by rw [zax hlt]; exact ofB_yes _ _ _ hs
    clear hs;generalize ofB (l.take k) H = os at *;have HX := zB HE jx;clear HE jx;go_wp2_with (at_builtin; refine zk8 _ rfl _ _ rfl w.heap.size u5 _ rfl (HX.out.2.below (za4 wr _ _) (kaa _)) (wr.heap.size + 1) l[k] rfl (by exact zap wr _ _) hle (by simp; omega) ?_; intro g cap' w2 hown2 qz hat hlt2)
    have hB2 : Z w.heap.size w w2 := (hbw.trans ((za4 wr _ _).mono hsz)).grown qz (by simp; omega) (fun j hj => by
     rcases HX.out.2.2 with ⟨hv, _⟩ | ⟨g', cap'', cur, hv, hg', _⟩
     ·rw [hv] at hj; cases hj
     ·rw [hv] at hj; cases hj; exact hg')
    clear qz hat hcc hff d0 d1 d2 hle;go_wp2;go_roundw
    case rel =>
     refine ⟨k + 1, by omega, by go_num, ?_, hB2⟩;rw [HX.out.1];exact hown2
    case measure => simp [intOf]; omega
   ·have hd : (l[k].1 == H) = false := by simpa using hs
    have HE : Q (ofB (l.take (k + 1)) H = ofB (l.take k) H) := by show _ = _; rw [zax hlt]; exact ofB_no _ _ _ hs
    clear hs hle;have HX := zA jx;clear jx;go_wp2;go_roundw
    case rel =>
     refine ⟨k + 1, by omega, by go_num, ?_, hbw.alloc hsz _⟩;rw [HE.out];exact HX.out.below (zg wr _) (kaa _)
    case measure => simp [intOf]; omega
  ·have HE : Q (l.take k = l) := by show _ = _; rw [kab (by omega)]
   clear hp;go_wp2;go_ret;exact ⟨_, rfl, by rw [HE.out] at jx; exact jx, hbw⟩
open Go.RowKit Go.Sort
def zdc (w : World) (base : Nat) (v : Value) (l : List Int) : Prop := w.ownsRow base 3 1 v l.length (l.map (Value.int J))
def sortB (l : List P3) : List Int := (l.map (·.1)).mergeSort fun x y => decide (x ≤ y)
def zhr (l : List P3) : List Int := Lib.compact (sortB l)
theorem zdc.below {w w' : World} {base : Nat} {v : Value} {l : List Int} (h : zdc w base v l) {B : Nat} (hb : Z B w w') (hB : w.heap.size ≤ B) : zdc w' base v l := zhc h hb hB
theorem zmr {ops : Array Oper} {rest : List Oper} {o : Oper} {a : Act} {zZ : Exit → Act → World → Prop} (w : World) (hgd : o.guard = U) (s x : Operand)
  (ho : o.op = .call { callee := .builtin .append, args := #[s, x], argTypes := #[56, 56] })
  (base : Nat) (v : Value) (l : List Int) (hs : a.eval s = v) (jx : zdc w base v l) (B : Nat) (p : Int) (hx : a.eval x = G (some ⟨B, 0, U⟩) 1 1)
  (hB : w.heap[B]? = some (T #[E J p] 3)) (hl : l.length ≤ 1000000) (hbase : base ≤ w.heap.size)
  (h : ∀ g cap w', zdc w' base (G (some ⟨g, 0, U⟩) (l.length + 1) cap) (l ++ [p]) → w.grownBy w' v.ownBlock → (v.ownBlock = some g ∨ g = w.heap.size) → g < w'.heap.size → wpList Tryz.prog ops zZ rest (a.put o.dst (G (some ⟨g, 0, U⟩) (l.length + 1) cap)) w') : wpList Tryz.prog ops zZ (o :: rest) a w := by
 obtain ⟨i0, hi, hz0, hz1, hz2⟩ := info_parts zcm;refine wpList_append_lies w hgd s x 56 ho base 3 i0 _ 1 8 Tryz.underlying56 hi hz0 hz1 hz2 rfl (by decide) v l.length (l.map (Value.int J)) hs jx ⟨B, 0, U⟩ 1 1 [E J p] hx rfl (World.news_of_block hB) ?_ (by decide) (by unfold maxLen; omega) (by omega) hbase w.heap.size rfl ?_
 ·intro u hu
  simp at hu
  subst hu;rfl
 ·intro g cap w' h1 h2 h3 h4
  refine h g cap w' ?_ h2 h3 h4;unfold zdc
  simpa using h1
theorem zdc.row {w : World} {base : Nat} {v : Value} {l : List Int} (h : zdc w base v l) : ∀ k, v.ownBlock = some k → base ≤ k := by
 intro j hj;rcases h.2 with ⟨hv, _⟩ | ⟨g', cap'', cur, hv, hg', _⟩
 ·rw [hv] at hj; cases hj
 ·rw [hv] at hj; cases hj; exact hg'
theorem zlw {B : Nat} {a w : World} (h : Z B a w) (hB : B ≤ w.heap.size) (os : Array Obj) : Z B a (grow w os) :=
 h.trans ⟨rfl, rfl, rfl, by simp, fun k hk => heap_grow_old w os (by omega)⟩
theorem zk4 (a : Option Addr) (l : List P3) (cap n : Nat) (w : World) (hn : n = l.length) (hl : l.length ≤ 4) (h1 : 1 ≤ l.length) (hp : zai w a l) :
  Calls Tryz.prog 78 #[G a n cap] w fun e w' => ∃ v, e = .returned v ∧ zdc w' w.heap.size v (zhr l) ∧ Z w.heap.size w w' := by
 subst hn;obtain ⟨i0, hi, hz0, hz1, hz2⟩ := info_parts zcm;go_enter Tryz.func78, Tryz.ntmps78
 go_wp2_with (at_make; refine wpList_make_own _ rfl _ _ 56 rfl w.heap.size 3 i0 (E J 0) 1 Tryz.underlying56 hi hz0 hz1 J J _ l.length rfl rfl rfl (by rw [hz2]; omega) (by unfold maxLen; omega) (kaa _) ?_; intro w1 jx qz)
 have hB1 := (Below.refl _ _).grown qz (kaa _) (fun k hk => by cases hk);clear qz hi hz0 hz1 hz2;go_loopw [3, 11] (fun v i w' => ∃ k : Nat, k ≤ l.length ∧ i = E J k ∧ zdc w' w.heap.size v ((l.take k).map (·.1)) ∧ Z w.heap.size w w' ∧ v ≠ G U 0 0) (fun _ i _ => l.length - (intOf i).toNat)
 case atStart => exact ⟨0, Nat.zero_le _, rfl, jx, hB1, by simp⟩
 case round =>
  obtain ⟨k, hk, rfl, jx, hbw, hne⟩ := hrel;by_cases hlt : k < l.length
  ·rcases hp with rfl | ⟨b', o, rfl, hb', hc⟩
   ·simp at hlt
   obtain ⟨d0, d1, d2⟩ := hc k hlt;clear hc;obtain ⟨hcc, hff⟩ := zc1 hbw;have hsz := hbw.size;have hle : ((l.take k).map (·.1)).length ≤ 1000000 := by simp; omega
   have HE : (l.take (k + 1)).map (·.1) = (l.take k).map (·.1) ++ [l[k].1] := by rw [zax hlt, List.map_append]; rfl
   generalize (l.take k).map (·.1) = zs at *;have HE2 := zA HE;have HO := zA jx;clear jx HE;go_wp2_with (at_builtin; refine zmr _ rfl _ _ rfl w.heap.size _ _ rfl (HO.out.below (za4 wr _ _) (kaa _)) (wr.heap.size + 1) l[k].1 rfl (by exact zap wr _ _) hle (by simp; omega) ?_; intro g cap' w2 hown2 qz hat hlt2)
   have hB2 := (hbw.trans ((za4 wr _ _).mono hsz)).grown qz (by simp; omega) HO.out.row;clear qz hat HO hcc hff d0 d1 d2 hle;go_wp2;go_roundw
   case rel =>
    refine ⟨k + 1, by omega, by go_num, ?_, hB2, by simp⟩;rw [HE2.out];exact hown2
   case measure => simp [intOf]; omega
  ·have hlk : l.take k = l := by rw [kab (by omega)]
   rw [hlk] at jx;obtain ⟨zs, hzs⟩ : ∃ zs, zs = l.map (·.1) := ⟨_, rfl⟩;have hzl : zs.length = l.length := by rw [hzs]; simp
   have hz4 : zs.length ≤ 4 := by omega
   rw [← hzs] at jx;have HZ := zB hzs hzl;clear hzs hzl hlk hp;obtain ⟨g, cap', rfl, hbg, hgl, hncap, hcm, _, hH⟩ := Lib.holds_of_ownsRow jx hne;have hsort := Tryz.slices_Sort_int g 0 cap' zs wr hH hgl (by omega);have HX := zB jx hH;clear jx hne hH;go_wp2_with fail
   refine hsort.mono ?_;rintro e w2 ⟨rfl, nn, os, rfl⟩;clear hsort;have hl2 : (zs.mergeSort fun x y => decide (x ≤ y)).length = zs.length := List.length_mergeSort zs
   have hH2 : Holds (Value.int J) (grow (putRow (Value.int J) (Sort.ahead wr nn) g 0 (zs.mergeSort fun x y => decide (x ≤ y)).toArray) os) g 0 (zs.mergeSort fun x y => decide (x ≤ y)).toArray :=
    holds_grow _ _ os g 0 _ (by simpa [putRow, mapBlock, Sort.ahead] using hgl) (holds_putRow _ _ g 0 _ _ (holds_ahead _ wr nn g 0 _ HX.out.2) (by simp))
   have hB2 : Z w.heap.size w (grow (putRow (Value.int J) (Sort.ahead wr nn) g 0 (zs.mergeSort fun x y => decide (x ≤ y)).toArray) os) := zlw (Lib.below_putRow hbw hbg) (by simpa [putRow, mapBlock, Sort.ahead] using hbw.size) os
   have hO2 : zdc (grow (putRow (Value.int J) (Sort.ahead wr nn) g 0 (zs.mergeSort fun x y => decide (x ≤ y)).toArray) os) w.heap.size (G (some ⟨g, 0, U⟩) zs.length cap') (zs.mergeSort fun x y => decide (x ≤ y)) := by
    have h1 := Lib.ownsRow_putRow (q := nn) (k := zs.length) (ys := zs.mergeSort fun x y => decide (x ≤ y)) HX.out.1 hl2 (kaa _);rw [kab (by omega)] at h1;have h2 := zhc h1 (zlw (Below.refl _ _) (kaa _) os) (kaa _);unfold zdc
    rw [hl2];exact h2
   have HS : Q (zhr l = Lib.compact (zs.mergeSort fun x y => decide (x ≤ y))) := by
    show _ = _
    rw [HZ.out.1]; rfl
   generalize (grow (putRow (Value.int J) (Sort.ahead wr nn) g 0 (zs.mergeSort fun x y => decide (x ≤ y)).toArray) os) = w2 at *;generalize (zs.mergeSort fun x y => decide (x ≤ y)) = ys at *;have hcomp := Tryz.slices_Compact_int g 0 cap' ys w2 hH2 (by omega) (by omega);rw [hl2] at hcomp;have HY := zB hl2 hO2;clear hl2 hO2 hH2 HX HZ;go_wp2_with fail
   refine hcomp.mono ?_;rintro e w3 ⟨rfl, q, rfl⟩;clear hcomp;have HL := zA (Lib.compact_length_le ys);go_wp2;go_ret;refine ⟨_, rfl, ?_, Lib.below_putRow hB2 hbg⟩;rw [HS.out];have hle := HL.out;have hO := HY.out.2;unfold zdc at hO
   rw [HY.out.1] at hO hle;have hc := Lib.ownsRow_putRow (q := q) (k := (Lib.compact ys).length) (ys := Lib.compact ys ++ List.replicate (zs.length - (Lib.compact ys).length) 0) hO (by simp; omega) hle;rw [List.take_left] at hc;unfold zdc
   exact hc
def zd3 (l : List P3) (k : Int) : List Int := ([0, 1, 2] : List Int).filter fun n => decide (n < k ∧ 0 < (ofB l n).length)
theorem zm9 (l : List P3) : zd3 l 0 = [] := by
 simp [zd3]
theorem zpn (l : List P3) {k : Int} (h0 : 0 ≤ k) (h3 : k < 3) : zd3 l (k + 1) = if 0 < (ofB l k).length then zd3 l k ++ [k] else zd3 l k := by
 have hk : k = 0 ∨ k = 1 ∨ k = 2 := by omega
 rcases hk with rfl | rfl | rfl
 all_goals
  simp only [zd3, List.filter_cons, List.filter_nil]
  generalize (ofB l 0).length = n0;generalize (ofB l 1).length = n1;generalize (ofB l 2).length = n2;by_cases c0 : 0 < n0 <;> by_cases c1 : 0 < n1 <;> by_cases c2 : 0 < n2 <;> simp [c0, c1, c2]
theorem zpv (l : List P3) (k : Int) : (zd3 l k).length ≤ 3 := by
 have := List.length_filter_le (fun n => decide (n < k ∧ 0 < (ofB l n).length)) ([0, 1, 2] : List Int)
 simpa [zd3] using this
theorem zg3 (a : Option Addr) (l : List P3) (cap n : Nat) (w : World) (hn : n = l.length) (hl : l.length ≤ 4) (hp : zai w a l) :
  Calls Tryz.prog 62 #[G a n cap] w fun e w' => ∃ v, e = .returned v ∧ zdc w' w.heap.size v (zd3 l 3) ∧ Z w.heap.size w w' := by
 subst hn;go_enter Tryz.func62, Tryz.ntmps62
 go_wp2;go_loopw [3, 5] (fun v i w' => ∃ k : Int, 0 ≤ k ∧ k ≤ 3 ∧ i = E J k ∧ zdc w' w.heap.size v (zd3 l k) ∧ Z w.heap.size w w') (fun _ i _ => (3 - intOf i).toNat)
 case atStart => exact ⟨0, by omega, by omega, rfl, by rw [zm9]; exact World.ownsRow_nil _ _ _ _, Below.refl _ _⟩
 case round =>
  obtain ⟨k, hk0, hk, rfl, jx, hbw⟩ := hrel;by_cases hlt : k < 3
  ·have zbi := zpn l hk0 hlt
   have jw := zpv l k;generalize zd3 l k = rs at *;have hsz := hbw.size;go_wp2_with fail
   refine (zky k a l cap _ wr rfl hl (hp.below hbw)).mono ?_;rintro e w1 ⟨v, rfl, hov, hb1⟩;obtain ⟨a1, c1, rfl, _, _⟩ := hov.parts;have hsz1 := hb1.size;have hB1 := hbw.trans (hb1.mono hsz);have hown1 := jx.below hb1 (kaa _);clear hov hb1 jx hbw;by_cases hc : 0 < (ofB l k).length
   ·rw [if_pos hc] at zbi
    have hc' : 0 < ((ofB l k).length : Int) := by omega
    have HX := zB zbi hown1;clear zbi hown1 hc;go_wp2_with (at_builtin; refine zmr _ rfl _ _ rfl w.heap.size u3 rs rfl (HX.out.2.below (zg w1 _) (kaa _)) w1.heap.size k rfl (by exact heap_alloc_new w1 _) (by omega) (by simp; omega) ?_; intro g cap' w2 hown2 qz hat hlt2)
    have hB2 := (hB1.alloc (by omega) _).grown qz (by simp; omega) HX.out.2.row;clear qz hat;go_wp2;go_roundw
    case rel => exact ⟨k + 1, by omega, by omega, by go_num, by rw [HX.out.1]; exact hown2, hB2⟩
    case measure => simp [intOf]; omega
   ·rw [if_neg hc] at zbi
    have hc' : ¬ 0 < ((ofB l k).length : Int) := by omega
    have HX := zB zbi hown1;clear zbi hown1 hc;go_wp2;go_roundw
    case rel => exact ⟨k + 1, by omega, by omega, by go_num, by rw [HX.out.1]; exact HX.out.2, hB1⟩
    case measure => simp [intOf]; omega
  ·have hk3 : k = 3 := by omega
   subst hk3;have HX := zA jx;clear jx hp;go_wp2;go_ret;exact ⟨_, rfl, HX.out, hbw⟩
end Go.Proofs.YtpcnlifmkhagkaaGreat
