import Derived.Test.YtpcnlifmkhagkaaKAJ07
set_option maxRecDepth 20000
set_option maxHeartbeats 20000000
namespace Go.Proofs.Ytpcnlifmkhagkaa
open Go.RowKit
open Go.Value renaming slice → G, int → E
open Go.IntKind renaming i64 → J
open _root_.Option renaming none → U
open Go.Obj renaming cells → T
open Go.RowKit renaming Hid → Q, Below → Z
attribute [local go_sem ↓] Go.wp_at_zero Go.wp_at_succ
theorem zal.get {w : World} {a : Option Addr} {l : List P3} (h : zal w a l) {k : Nat} (hk : k < l.length) : ∃ b o, a = some ⟨b, o, U⟩ ∧ b < w.heap.size ∧ w.cell? ⟨b, o + k * 3, U⟩ = some (E J l[k].1) ∧ w.cell? ⟨b, o + k * 3 + 1, U⟩ = some (E J l[k].2.1) ∧ w.cell? ⟨b, o + k * 3 + 2, U⟩ = some (E J l[k].2.2) := by
 rcases h with rfl | ⟨b, o, rfl, hlt, hc⟩
 ·simp at hk
 ·exact ⟨b, o, rfl, hlt, hc k hk⟩
abbrev XO := Int × (Hd × List P3) × Bool × (Hd × List Int)
def zan (x : XO) : List Value := [E J x.1, G x.2.1.1.1 x.2.1.2.length x.2.1.1.2, .bool x.2.2.1, G x.2.2.2.1.1 x.2.2.2.2.length x.2.2.2.1.2]
theorem zas (x : XO) : (zan x).length = 4 := rfl
theorem oneQ (x : XO) : ∀ u ∈ zan x, u.oneCell' = true := by intro u hu; simp [zan] at hu; rcases hu with rfl | rfl | rfl | rfl <;> rfl
def zz (x : XO) : O4 := (x.1, x.2.1.2, x.2.2.1, x.2.2.2.2)
def XOAt (w : World) (x : XO) : Prop := zal w x.2.1.1.1 x.2.1.2 ∧ zk 1 zv w x.2.2.2.1.1 x.2.2.2.2
theorem XOAt.below {w w' : World} {x : XO} (h : XOAt w x) (hb : Z w.heap.size w w') : XOAt w' x := ⟨h.1.below hb, h.2.below hb⟩
def zgf (w : World) (a : Option Addr) (X : List XO) : Prop := zk 4 zan w a X ∧ ∀ x ∈ X, XOAt w x
theorem zgf.below {w w' : World} {a : Option Addr} {X : List XO} (h : zgf w a X) (hb : Z w.heap.size w w') : zgf w' a X := ⟨h.1.below hb, fun x hx => (h.2 x hx).below hb⟩
theorem zgf.get {w : World} {a : Option Addr} {X : List XO} (h : zgf w a X) {k : Nat} (hk : k < X.length) : ∃ b o, a = some ⟨b, o, U⟩ ∧ b < w.heap.size ∧ w.cell? ⟨b, o + k * 4, U⟩ = some (E J X[k].1) ∧
  w.cell? ⟨b, o + k * 4 + 1, U⟩ = some (.slice X[k].2.1.1.1 X[k].2.1.2.length X[k].2.1.1.2) ∧ w.cell? ⟨b, o + k * 4 + 2, U⟩ = some (.bool X[k].2.2.1) ∧ w.cell? ⟨b, o + k * 4 + 3, U⟩ = some (.slice X[k].2.2.2.1.1 X[k].2.2.2.2.length X[k].2.2.2.1.2) ∧ XOAt w X[k] := by
 rcases h.1 with rfl | ⟨b, o, rfl, hlt, hc⟩
 ·simp at hk
 ·exact ⟨b, o, rfl, hlt, hc k hk 0 _ rfl, hc k hk 1 _ rfl, hc k hk 2 _ rfl, hc k hk 3 _ rfl, h.2 _ (List.getElem_mem hk)⟩
def HeadG (w : World) (v : Value) (L : List R3) (boot next : Int) (O : List O4) : Prop :=
 ∃ (la : Option Addr) (nl lc : Nat) (Y : List XL) (oa : Option Addr) (no oc : Nat) (X : List XO),
  v = .agg #[G la nl lc, E J boot, E J next, G oa no oc] ∧ (nl = L.length ∧ Y.map zf = L ∧ zcc w la Y) ∧ (no = X.length ∧ X.map zz = O ∧ zgf w oa X)
theorem HeadG.below {w w' : World} {v : Value} {L : List R3} {b n : Int} {O : List O4} (hh : HeadG w v L b n O) (hb : Z w.heap.size w w') : HeadG w' v L b n O := by
 obtain ⟨la, nl, lc, Y, oa, no, oc, X, hv, ⟨h1, h2, h3⟩, h4, h5, h6⟩ := hh;exact ⟨la, nl, lc, Y, oa, no, oc, X, hv, ⟨h1, h2, h3.below hb⟩, h4, h5, h6.below hb⟩
def SizeG (L : List R3) (O : List O4) : Prop :=
 (L.length ≤ 9223372036854775807 ∧ ∀ jj ∈ L, jj.2.2.length ≤ 9223372036854775807) ∧ (O.length ≤ 9223372036854775807 ∧ ∀ x ∈ O, x.2.1.length ≤ 9223372036854775807 ∧ x.2.2.2.length ≤ 9223372036854775807)
def ofP (l : List P3) (i : Nat) : List P3 := l.filter fun p => decide (p.1 = (i : Int))
def zhp (l : List P3) : Nat → List S4 → Int
 | _, [] => 0
 | i, s :: t => if zcp s (ofP l i) = 0 then zhp l (i + 1) t else zcp s (ofP l i)
def zgh (l : List P3) : Nat → List S4 → List S4
 | _, [] => []
 | i, s :: t => doB s (ofP l i) :: zgh l (i + 1) t
def errM (S : List S4) (l : List P3) : Int := zhp l 0 S
def doM (S : List S4) (l : List P3) : List S4 := if errM S l = 0 then zgh l 0 S else S
def zd4 (S : List S4) : List (List P3) → List S4
 | [] => S
 | l :: t => zd4 (doM S l) t
def zgy (S : List S4) : List (List P3) → List Int
 | [] => []
 | l :: t => errM S l :: zgy (doM S l) t
theorem zig (l : List P3) : ∀ (i : Nat) (S : List S4), (zgh l i S).length = S.length
 | _, [] => rfl
 | i, s :: t => by simp only [zgh, List.length_cons]; rw [zig l (i + 1) t]
theorem doM_len (S : List S4) (l : List P3) : (doM S l).length = S.length := by
 unfold doM; split
 ·exact zig _ _ _
 ·rfl
theorem zks (l : List P3) : ∀ (i : Nat) (S : List S4) (k : Nat) (h : k < S.length) (h' : k < (zgh l i S).length), (zgh l i S)[k] = doB S[k] (ofP l (i + k))
 | i, s :: t, 0, _, _ => rfl
 | i, s :: t, k + 1, h, h' => by
  simp only [zgh, List.getElem_cons_succ]
  rw [zks l (i + 1) t k (by simpa using h) (by rw [zig]; simpa using h)];rw [show i + 1 + k = i + (k + 1) by omega]
theorem zjp {l : List P3} : ∀ {i : Nat} {S : List S4}, zhp l i S = 0 ↔ ∀ k (h : k < S.length), zcp S[k] (ofP l (i + k)) = 0
 | i, [] => by simp [zhp]
 | i, s :: t => by
  simp only [zhp]
  constructor
  ·intro h
   split at h
   ·rename_i h0
    intro k hk
    cases k with
    | zero => simpa using h0
    | succ k =>
     have := (zjp (i := i + 1) (S := t)).1 h k (by simpa using hk);simp only [List.getElem_cons_succ]
     rw [show i + (k + 1) = i + 1 + k by omega]; exact this
   ·rename_i h0; exact absurd h h0
  ·intro h
   have h0 := h 0 (by simp);rw [Nat.add_zero] at h0;rw [if_pos (show zcp s (ofP l i) = 0 from h0)];refine (zjp (i := i + 1) (S := t)).2 fun k hk => ?_
   have := h (k + 1) (by simpa using hk);simp only [List.getElem_cons_succ] at this
   rw [show i + 1 + k = i + (k + 1) by omega]; exact this
def Apart (a b : List P3) : Prop := ∀ p ∈ a, ∀ q ∈ b, zex p q = false
theorem Apart.symm {a b : List P3} (h : Apart a b) : Apart b a := fun q hq p hp => by
 have := h p hp q hq;simp only [zex, decide_eq_false_iff_not] at this ⊢
 exact fun ⟨x, y⟩ => this ⟨x.symm, y.symm⟩
theorem zl4 : ∀ (L : List (List P3)) (S : List S4), (zd4 S L).length = S.length
 | [], _ => rfl
 | l :: t, S => by simp only [zd4]; rw [zl4 t, doM_len]
theorem zmv : ∀ (L : List (List P3)) (S : List S4) (l : List P3), zd4 S (L ++ [l]) = doM (zd4 S L) l
 | [], _, _ => rfl
 | _ :: t, S, l => by simp only [List.cons_append, zd4]; rw [zmv t]
theorem zkx : ∀ (L : List (List P3)) (S : List S4) (l : List P3), zgy S (L ++ [l]) = zgy S L ++ [errM (zd4 S L) l]
 | [], _, _ => rfl
 | _ :: t, S, l => by simp only [List.cons_append, zgy, zd4]; rw [zkx t]
def zp (l : List P3) : List Int := ([0, 1, 2] : List Int).filter fun n => decide (0 < (ofB l n).length)
structure Gh where
 log : List R3
 boot : Int
 next : Int
 opn : List O4
structure WW where
 hd : Gh
 hs : List (List R3)
 net : List Q4
def za6 (o : O4) : List Q4 := ((zp o.2.1).filter fun n => !inI o.2.2.2 n).map fun n => if o.2.2.1 = true then (4, o.1, n, []) else (1, o.1, n, ofB o.2.1 n)
def za9 (o : O4) : List Q4 := (zp o.2.1).map fun n => (5, o.1, n, [])
def zw (L : List R3) : Gh := ⟨L, (zac L).1, 0, (zac L).2.map fun x => (x.1, x.2, true, [])⟩
def zah (g : Gh) : Gh × Int := if 19 < g.boot then (g, 5) else (zw (g.log ++ [(4, 0, [])]), 0)
def zo (g : Gh) (l : List P3) : Gh × List Q4 × Int :=
 if 11 < g.opn.length ∨ 63 < g.next then (g, [], 9)
 else ({ g with opn := g.opn ++ [(64 * g.boot + g.next, l, false, [])], next := g.next + 1 }, za6 (64 * g.boot + g.next, l, false, []), 0)
def zq (m : Q4) (o : O4) : Option O4 × List R3 × List Q4 :=
  if m.1 = 2 ∧ o.2.2.1 = false ∧ (inI (zp o.2.1) m.2.2.1 = true ∧ inI o.2.2.2 m.2.2.1 = false) then
    (if (o.2.2.2 ++ [m.2.2.1]).length = (zp o.2.1).length then (some (o.1, o.2.1, true, []), [(5, o.1, o.2.1)], za6 (o.1, o.2.1, true, []))
     else (some (o.1, o.2.1, false, o.2.2.2 ++ [m.2.2.1]), [], []))
  else if m.1 = 3 ∧ o.2.2.1 = false then (U, [], za9 o)
  else if m.1 = 6 ∧ o.2.2.1 = true ∧ (inI (zp o.2.1) m.2.2.1 = true ∧ inI o.2.2.2 m.2.2.1 = false) then
    (if (o.2.2.2 ++ [m.2.2.1]).length = (zp o.2.1).length then (U, [(6, o.1, [])], [])
     else (some (o.1, o.2.1, true, o.2.2.2 ++ [m.2.2.1]), [], []))
  else if m.1 = 7 ∧ o.2.2.1 = true then (some o, [], [(4, m.2.1, m.2.2.1, [])])
  else (some o, [], [])
def zbx (m : Q4) : List O4 → Option (List O4 × List R3 × List Q4)
 | [] => U
 | o :: t => if o.1 = m.2.1 then some ((zq m o).1.toList ++ t, (zq m o).2.1, (zq m o).2.2) else (zbx m t).map fun x => (o :: x.1, x.2)
def zh (g : Gh) (m : Q4) : Gh × List Q4 :=
 match zbx m g.opn with
 | some x => ({ g with opn := x.1, log := g.log ++ x.2.1 }, x.2.2)
 | none => (g, if m.1 = 7 then [(5, m.2.1, m.2.2.1, [])] else [])
def zev (g : Gh) : List Q4 := g.opn.flatMap za6
def zu (g : Gh) : Gh × List Q4 := ({ g with opn := g.opn.filter fun o => o.2.2.1 }, (g.opn.filter fun o => !o.2.2.1).flatMap za9)
def zbu (net ms : List Q4) : List Q4 := net ++ ms.take (24 - net.length)
def askW (D : List D2) (me : Int) : List Q4 := D.map fun x => (7, x.1, me, [])
def zaz (n : Nat) : WW := ⟨zw [(4, 0, [])], List.replicate n [], []⟩
def WW.at (W : WW) (k : Int) : List R3 := W.hs.getD k.toNat []
def zee (W : WW) (m : Q4) : WW :=
  if m.2.2.1 < W.hs.length then
    (if m.1 = 1 ∨ m.1 = 4 ∨ m.1 = 5 then
      { W with hs := W.hs.set m.2.2.1.toNat (zr (W.at m.2.2.1) m.1 m.2.1 m.2.2.2), net := zbu W.net (zaw (W.at m.2.2.1) m.2.2.1 m.1 m.2.1 m.2.2.2) }
     else { W with hd := (zh W.hd m).1, net := zbu W.net (zh W.hd m).2 })
  else W
def zl (W : WW) (s : Int × Int × List P3) : WW × Int :=
  if s.1 = 1 then
    (if zay s.2.2 W.hs.length = 0 then ({ W with hd := (zo W.hd s.2.2).1, net := zbu W.net (zo W.hd s.2.2).2.1 }, (zo W.hd s.2.2).2.2) else (W, zay s.2.2 W.hs.length))
  else if s.1 = 2 ∨ s.1 = 3 ∨ s.1 = 4 then
    (if 0 ≤ s.2.1 then
      (match W.net[s.2.1.toNat]? with
       | none => (W, 6)
       | some m => if s.1 = 4 then ({ W with net := if W.net.length < 24 then W.net ++ [m] else W.net }, 0)
         else if s.1 = 3 then ({ W with net := W.net.eraseIdx s.2.1.toNat }, 0)
         else (zee { W with net := W.net.eraseIdx s.2.1.toNat } m, 0))
     else (W, 6))
  else if s.1 = 5 then (if s.2.1 = 3 then ({ W with hd := (zah W.hd).1 }, (zah W.hd).2) else if s.2.1 < 0 ∨ (W.hs.length : Int) ≤ s.2.1 then (W, 6) else (W, 0))
  else if s.1 = 6 then (if s.2.1 = 3 then ({ W with net := zbu W.net (zev W.hd) }, 0) else if s.2.1 < 0 ∨ (W.hs.length : Int) ≤ s.2.1 then (W, 6) else ({ W with net := zbu W.net (askW (ze (W.at s.2.1)).2.1 s.2.1) }, 0))
  else if s.1 = 7 then ({ W with hd := (zu W.hd).1, net := zbu W.net (zu W.hd).2 }, 0)
  else (W, 1)
def zav (n : Nat) (l : List (Int × Int × List P3)) : WW := (l.take 150).foldl (fun W s => (zl W s).1) (zaz n)
theorem Blk.cells4 {w : World} {N : Nat} {zV : TypeId} {c0 c1 c2 c3 : Value} (h : Blk w N #[c0, c1, c2, c3] zV) : w.cell? ⟨N, 0, U⟩ = some c0 ∧ w.cell? ⟨N, 1, U⟩ = some c1 ∧ w.cell? ⟨N, 2, U⟩ = some c2 ∧ w.cell? ⟨N, 3, U⟩ = some c3 := ⟨h.cell 0, h.cell 1, h.cell 2, h.cell 3⟩
theorem Blk.free4 {w : World} {N : Nat} {zV : TypeId} {c0 c1 c2 c3 : Value} (h : Blk w N #[c0, c1, c2, c3] zV) : w.frozen? ⟨N, 0, U⟩ = false ∧ w.frozen? ⟨N, 1, U⟩ = false ∧ w.frozen? ⟨N, 2, U⟩ = false ∧ w.frozen? ⟨N, 3, U⟩ = false := ⟨h.free 0, h.free 1, h.free 2, h.free 3⟩
theorem zd.slice {α : Type} {e : TypeId} {size : Nat} {enc : α → List Value} {w : World} {base : Nat} {v : Value} {xs : List α} (he : ∀ x, (enc x).length = size) (h : zd e size enc w base v xs) : ∃ a n c, v = G a n c := by
 obtain ⟨a, c, hv, _⟩ := h.row he;exact ⟨a, _, c, hv⟩
def zc0 (R : Nat → Prop) (w : World) (a : Option Addr) (l : List Int) : Prop := zk 1 zv w a l ∧ Out R a l.length
theorem zc0.keep {R : Nat → Prop} {w w' : World} {a : Option Addr} {l : List Int} (h : zc0 R w a l) (hk : zg R w w') : zc0 R w' a l := ⟨h.1.keepR h.2 hk, h.2⟩
theorem zc0.below {R : Nat → Prop} {w w' : World} {a : Option Addr} {l : List Int} (h : zc0 R w a l) (hb : Z w.heap.size w w') : zc0 R w' a l := h.keep (zdg hb)
theorem zc0.wide {R R' : Nat → Prop} {w : World} {a : Option Addr} {l : List Int} (h : zc0 R w a l) (hR : ∀ b, R' b → R b ∨ w.heap.size ≤ b) : zc0 R' w a l := ⟨h.1, h.1.out h.2 hR⟩
theorem zc0.nil (R : Nat → Prop) (w : World) (a : Option Addr) : zc0 R w a [] := ⟨Or.inl rfl, Or.inl rfl⟩
theorem zd.intsR {w : World} {base : Nat} {a : Option Addr} {n c : Nat} {l : List Int} (h : zd 3 1 zv w base (G a n c) l) {R : Nat → Prop} (hR : ∀ b, R b → b < base) : n = l.length ∧ zc0 R w a l := by
 have h1 := h.at zai;exact ⟨h1.2.1, h1.1, h.outR hR _⟩
theorem zam.outR {base : Nat} {w : World} {a : Option Addr} {l : List P3} (h : zam base w a l) {R : Nat → Prop} (hR : ∀ b, R b → b < base) : zae R w a l := by
 refine ⟨h.at, ?_⟩;rcases h with rfl | ⟨b, o, cs, rfl, hb, -, -⟩
 ·exact Or.inl rfl
 ·refine Or.inr (fun ad had hr => ?_)
  cases had;have h' : b < base := hR _ hr;omega
def OpR (R : Nat → Prop) (w : World) (x : XO) : Prop := zae R w x.2.1.1.1 x.2.1.2 ∧ zc0 R w x.2.2.2.1.1 x.2.2.2.2
theorem OpR.keep {R : Nat → Prop} {w w' : World} {x : XO} (h : OpR R w x) (hk : zg R w w') : OpR R w' x := ⟨h.1.keep hk, h.2.keep hk⟩
theorem OpR.below {R : Nat → Prop} {w w' : World} {x : XO} (h : OpR R w x) (hb : Z w.heap.size w w') : OpR R w' x := h.keep (zdg hb)
theorem OpR.wide {R R' : Nat → Prop} {w : World} {x : XO} (h : OpR R w x) (hR : ∀ b, R' b → R b ∨ w.heap.size ≤ b) : OpR R' w x := ⟨h.1.wide hR, h.2.wide hR⟩
structure zbk (R : Nat → Prop) (w : World) (la : Option Addr) (nl : Nat) (Y : List XL) (oa : Option Addr) (no : Nat) (X : List XO) (L : List R3) (O : List O4) : Prop where
 ln : nl = Y.length
 log : zk 3 zaj w la Y
 lout : Out R la Y.length
 says : Y.map zf = L
 parts : ∀ y ∈ Y, zae R w y.2.2.1.1 y.2.2.2
 on : no = X.length
 opn : zk 4 zan w oa X
 oout : Out R oa X.length
 osays : X.map zz = O
 oparts : ∀ x ∈ X, OpR R w x
section
variable {R R' : Nat → Prop} {w w' : World} {la : Option Addr} {nl : Nat} {Y : List XL} {oa : Option Addr} {no : Nat} {X : List XO} {L : List R3} {O : List O4}
theorem zbk.keep (H : zbk R w la nl Y oa no X L O) (hk : zg R w w') : zbk R w' la nl Y oa no X L O :=
 ⟨H.ln, H.log.keepR H.lout hk, H.lout, H.says, fun y hy => (H.parts y hy).keep hk, H.on, H.opn.keepR H.oout hk, H.oout, H.osays, fun x hx => (H.oparts x hx).keep hk⟩
theorem zbk.below (H : zbk R w la nl Y oa no X L O) (hb : Z w.heap.size w w') : zbk R w' la nl Y oa no X L O := H.keep (zdg hb)
theorem zbk.wide (H : zbk R w la nl Y oa no X L O) (hR : ∀ b, R' b → R b ∨ w.heap.size ≤ b) : zbk R' w la nl Y oa no X L O :=
 ⟨H.ln, H.log, H.log.out H.lout hR, H.says, fun y hy => (H.parts y hy).wide hR, H.on, H.opn, H.opn.out H.oout hR, H.osays, fun x hx => (H.oparts x hx).wide hR⟩
end
def zy (R : Nat → Prop) (w : World) (v : Value) (g : Gh) : Prop :=
 ∃ (la : Option Addr) (nl lc : Nat) (Y : List XL) (oa : Option Addr) (no oc : Nat) (X : List XO),
  v = .agg #[G la nl lc, E J g.boot, E J g.next, G oa no oc] ∧ zbk R w la nl Y oa no X g.log g.opn
theorem zy.keep {R : Nat → Prop} {w w' : World} {v : Value} {g : Gh} (H : zy R w v g) (hk : zg R w w') : zy R w' v g := by
 obtain ⟨la, nl, lc, Y, oa, no, oc, X, hv, hf⟩ := H;exact ⟨la, nl, lc, Y, oa, no, oc, X, hv, hf.keep hk⟩
theorem zy.below {R : Nat → Prop} {w w' : World} {v : Value} {g : Gh} (H : zy R w v g) (hb : Z w.heap.size w w') : zy R w' v g := H.keep (zdg hb)
theorem zy.wide {R R' : Nat → Prop} {w : World} {v : Value} {g : Gh} (H : zy R w v g) (hR : ∀ b, R' b → R b ∨ w.heap.size ≤ b) : zy R' w v g := by
 obtain ⟨la, nl, lc, Y, oa, no, oc, X, hv, hf⟩ := H;exact ⟨la, nl, lc, Y, oa, no, oc, X, hv, hf.wide hR⟩
theorem zy.g {R : Nat → Prop} {w : World} {v : Value} {g : Gh} (H : zy R w v g) : HeadG w v g.log g.boot g.next g.opn := by
 obtain ⟨la, nl, lc, Y, oa, no, oc, X, hv, F⟩ := H;exact ⟨la, nl, lc, Y, oa, no, oc, X, hv, ⟨by rw [F.ln, ← F.says, List.length_map], F.says, F.log, fun y hy => (F.parts y hy).1⟩, F.on, F.osays, F.opn, fun x hx => ⟨(F.oparts x hx).1.1, (F.oparts x hx).2.1⟩⟩
def zm (w : World) (base : Nat) (v : Value) (ms : List Q4) : Prop := ∃ X : List XM, zd 43 4 zb4 w base v X ∧ X.map zc6 = ms ∧ ∀ x ∈ X, zam base w x.2.2.2.1.1 x.2.2.2.2
theorem zm.nil (w : World) (base : Nat) : zm w base (G U 0 0) [] := ⟨[], zd.nil _ _, rfl, fun x hx => by cases hx⟩
theorem zm.below {w w' : World} {base : Nat} {v : Value} {ms : List Q4} (h : zm w base v ms) (hb : Z w.heap.size w w') : zm w' base v ms := by
 obtain ⟨X, h1, h2, h3⟩ := h;exact ⟨X, h1.below hb (Nat.le_refl _), h2, fun x hx => (h3 x hx).calm (zj.below hb (Nat.le_refl _))⟩
theorem zm.mono {w : World} {base base' : Nat} {v : Value} {ms : List Q4} (h : zm w base v ms) (hb : base' ≤ base) : zm w base' v ms := by
 obtain ⟨X, h1, h2, h3⟩ := h;exact ⟨X, h1.mono hb, h2, fun x hx => (h3 x hx).mono hb⟩
theorem zm.v {w : World} {base : Nat} {v : Value} {ms : List Q4} (h : zm w base v ms) {R : Nat → Prop} (hR : ∀ b, R b → b < base) : zat R w v ms := by
 obtain ⟨X, h1, h2, h3⟩ := h;obtain ⟨a, c, rfl, hr, _, _⟩ := h1.row zbw;exact ⟨a, _, c, X, rfl, rfl, hr, h1.outR hR _, h2, fun x hx => (h3 x hx).outR hR⟩
theorem zo3 (h k n H : Int) (b : Nat) (w : World) (hb : b < w.heap.size) (c0 : w.cell? ⟨b, 0, U⟩ = some (E J H)) :
  Calls Try.prog 58 #[.agg #[E J h, E J k, E J n], .pointer (some ⟨b, 0, U⟩)] w fun e w' => e = .returned (.bool (decide (h = H))) ∧ Z w.heap.size w w' := by
 go_enter Try.func58, Try.ntmps58
 go_wp2
 all_goals
  go_ret;refine ⟨zf3 ?_, zi _ _⟩;rw [Bool.eq_iff_iff]; simp_all
theorem ofB_yes (l : List P3) (p : P3) (H : Int) (h : p.1 = H) : ofB (l ++ [p]) H = ofB l H ++ [p] := by simp [ofB, List.filter_append, h]
theorem ofB_no (l : List P3) (p : P3) (H : Int) (h : ¬ p.1 = H) : ofB (l ++ [p]) H = ofB l H := by simp [ofB, List.filter_append, h]
theorem keep_any (H : Int) (b : Nat) (a : Option Addr) (l : List P3) (cap n : Nat) (w : World) (hn : n = l.length) (hl : l.length ≤ 4) (hp : zal w a l) (hb : b < w.heap.size) (c0 : w.cell? ⟨b, 0, U⟩ = some (E J H)) :
  Calls Try.prog 57 #[G a n cap, .func (.func 58) #[] #[.pointer (some ⟨b, 0, U⟩)]] w fun e w' => ∃ v, e = .returned v ∧ zbz w' w.heap.size v (ofB l H) ∧ Z w.heap.size w w' := by
 subst hn;go_enter Try.func57, Try.ntmps57
 go_wp2;go_loopw [5, 10] (fun v i w' => ∃ k : Nat, k ≤ l.length ∧ i = E J k ∧ zbz w' w.heap.size v (ofB (l.take k) H) ∧ Z w.heap.size w w') (fun _ i _ => l.length - (intOf i).toNat)
 case atStart => exact ⟨0, Nat.zero_le _, rfl, World.ownsRow_nil _ _ _ _, Below.refl _ _⟩
 case round =>
  obtain ⟨k, hk, rfl, jx, hbw⟩ := hrel;by_cases hlt : k < l.length
  ·rcases hp with rfl | ⟨b', o, rfl, hb', hc⟩
   ·simp at hlt
   obtain ⟨d0, d1, d2⟩ := hc k hlt;clear hc;obtain ⟨hcc, hff⟩ := zcz hbw;have hsz := hbw.size;go_wp2_with fail
   refine (zo3 _ _ _ H b _ (by simp; omega) (by rw [Below.cell (zi wr _) (by show b < _; omega), hcc _ _ hb]; exact c0)).mono ?_;rintro e w1 ⟨rfl, hb1⟩;have hbr := (zi wr _).trans (hb1.mono (by simp));have hB1 := hbw.trans (hbr.mono hsz);have hsz1 : wr.heap.size + 1 ≤ w1.heap.size := by have := hb1.size; simpa using this
   have hown1 := jx.below hbr (Nat.le_refl _);obtain ⟨hcc1, hff1⟩ := zcz hb1;have q0 : w1.cell? ⟨wr.heap.size, 0, U⟩ = some (E J l[k].1) := by rw [hcc1 _ _ (by simp)]; simp
   have q1 : w1.cell? ⟨wr.heap.size, 1, U⟩ = some (E J l[k].2.1) := by rw [hcc1 _ _ (by simp)]; simp
   have q2 : w1.cell? ⟨wr.heap.size, 2, U⟩ = some (E J l[k].2.2) := by rw [hcc1 _ _ (by simp)]; simp
   have hle : (ofB (l.take k) H).length ≤ 1000000 := by
    have h1 : (ofB (l.take k) H).length ≤ (l.take k).length := List.length_filter_le _ _;have h2 := List.length_take_le k l;omega
   clear hcc1 hff1 hcc hff jx d0 d1 d2 c0 hb1;by_cases hs : l[k].1 = H
   ·have hd : decide (l[k].1 = H) = true := by simpa using hs
    have HE : Q (ofB (l.take (k + 1)) H = ofB (l.take k) H ++ [l[k]]) := by show _ = _; rw [zax hlt]; exact ofB_yes _ _ _ hs
    rw [hd];clear hs hd;go_wp2_with (at_builtin; refine zld _ rfl _ _ rfl w.heap.size _ _ rfl (hown1.below (zi w1 _) (Nat.le_refl _)) w1.heap.size l[k] rfl (by exact heap_alloc_new w1 _) hle (by have := hB1.size; simp; omega) ?_; intro g cap' w2 hown2 j9 hat hlt2)
    have hB2 : Z w.heap.size w w2 := (hB1.trans ((zi w1 _).mono hB1.size)).grown j9 (by have := hB1.size; simp; omega) (fun j hj => by
     rcases hown1.2 with ⟨hv, _⟩ | ⟨g', cap'', cur, hv, hg', _⟩
     ·rw [hv] at hj; cases hj
     ·rw [hv] at hj; cases hj; exact hg')
    clear hown1 j9 hat q0 q1 q2 hbr;go_wp2;go_roundw
    case rel =>
     refine ⟨k + 1, by omega, by go_num, ?_, hB2⟩;rw [HE.out];exact hown2
    case measure => simp [intOf]; omega
   ·have hd : decide (l[k].1 = H) = false := by simpa using hs
    have HE : Q (ofB (l.take (k + 1)) H = ofB (l.take k) H) := by show _ = _; rw [zax hlt]; exact ofB_no _ _ _ hs
    rw [hd];clear hs hd;go_wp2;go_roundw
    case rel =>
     refine ⟨k + 1, by omega, by go_num, ?_, hB1⟩;rw [HE.out];exact hown1
    case measure => simp [intOf]; omega
  ·have HE : Q (l.take k = l) := by show _ = _; rw [List.take_of_length_le (by omega)]
   clear hp;go_wp2;go_ret;exact ⟨_, rfl, by rw [HE.out] at jx; exact jx, hbw⟩
theorem of_any (H : Int) (a : Option Addr) (l : List P3) (cap n : Nat) (w : World) (hn : n = l.length) (hl : l.length ≤ 4) (hp : zal w a l) :
  Calls Try.prog 38 #[G a n cap, E J H] w fun e w' => ∃ v, e = .returned v ∧ zbz w' w.heap.size v (ofB l H) ∧ Z w.heap.size w w' := by
 subst hn;have HC := keep_any H w.heap.size a l cap l.length (w.alloc (T #[E J H] 3)) rfl hl (hp.below (zi w _)) (by simp) (by simp);clear hp;go_enter Try.func38, Try.ntmps38
 go_wp2_with fail
 refine HC.mono ?_;rintro e w1 ⟨v, rfl, jx, hb1⟩;clear HC;go_wp2;go_ret;refine ⟨_, rfl, ?_, (zi w _).trans (hb1.mono (by simp))⟩;refine ⟨jx.1, ?_⟩;rcases jx.2 with h0 | ⟨g, cap, cur, hv, hg, jj⟩
 ·exact Or.inl h0
 ·exact Or.inr ⟨g, cap, cur, hv, by simp at hg; omega, jj⟩
theorem zkj (H : Int) (a : Option Addr) (l : List P3) (cap n : Nat) (w : World) (hn : n = l.length) (hl : l.length ≤ 4) (hp : zal w a l) :
  Calls Try.prog 27 #[G a n cap, E J H] w fun e w' => ∃ v, e = .returned v ∧ zbz w' w.heap.size v (ofB l H) ∧ Z w.heap.size w w' := by
 subst hn;go_enter Try.func27, Try.ntmps27
 go_wp2;go_loopw [5, 10] (fun v i w' => ∃ k : Nat, k ≤ l.length ∧ i = E J k ∧ zbz w' w.heap.size v (ofB (l.take k) H) ∧ Z w.heap.size w w') (fun _ i _ => l.length - (intOf i).toNat)
 case atStart => exact ⟨0, Nat.zero_le _, rfl, World.ownsRow_nil _ _ _ _, Below.refl _ _⟩
 case round =>
  obtain ⟨k, hk, rfl, jx, hbw⟩ := hrel;by_cases hlt : k < l.length
  ·rcases hp with rfl | ⟨b', o, rfl, hb', hc⟩
   ·simp at hlt
   obtain ⟨d0, d1, d2⟩ := hc k hlt;clear hc;obtain ⟨hcc, hff⟩ := zcz hbw;have hsz := hbw.size
   have hle : (ofB (l.take k) H).length ≤ 1000000 := by
    have h1 : (ofB (l.take k) H).length ≤ (l.take k).length := List.length_filter_le _ _;have h2 := List.length_take_le k l;omega
   by_cases hs : l[k].1 = H
   ·have hd : (l[k].1 == H) = true := by simpa using hs
    have HE : ofB (l.take (k + 1)) H = ofB (l.take k) H ++ [l[k]] := by rw [zax hlt]; exact ofB_yes _ _ _ hs
    clear hs;generalize ofB (l.take k) H = os at *;have HX := zB HE jx;clear HE jx;go_wp2_with (at_builtin; refine zld _ rfl _ _ rfl w.heap.size u5 _ rfl (HX.out.2.below (za2 wr _ _) (Nat.le_refl _)) (wr.heap.size + 1) l[k] rfl (by exact zaq wr _ _) hle (by simp; omega) ?_; intro g cap' w2 hown2 j9 hat hlt2)
    have hB2 : Z w.heap.size w w2 := (hbw.trans ((za2 wr _ _).mono hsz)).grown j9 (by simp; omega) (fun j hj => by
     rcases HX.out.2.2 with ⟨hv, _⟩ | ⟨g', cap'', cur, hv, hg', _⟩
     ·rw [hv] at hj; cases hj
     ·rw [hv] at hj; cases hj; exact hg')
    clear j9 hat hcc hff d0 d1 d2 hle;go_wp2;go_roundw
    case rel =>
     refine ⟨k + 1, by omega, by go_num, ?_, hB2⟩;rw [HX.out.1];exact hown2
    case measure => simp [intOf]; omega
   ·have hd : (l[k].1 == H) = false := by simpa using hs
    have HE : Q (ofB (l.take (k + 1)) H = ofB (l.take k) H) := by show _ = _; rw [zax hlt]; exact ofB_no _ _ _ hs
    clear hs hle;have HX := zA jx;clear jx;go_wp2;go_roundw
    case rel =>
     refine ⟨k + 1, by omega, by go_num, ?_, hbw.alloc hsz _⟩;rw [HE.out];exact HX.out.below (zi wr _) (Nat.le_refl _)
    case measure => simp [intOf]; omega
  ·have HE : Q (l.take k = l) := by show _ = _; rw [List.take_of_length_le (by omega)]
   clear hp;go_wp2;go_ret;exact ⟨_, rfl, by rw [HE.out] at jx; exact jx, hbw⟩
end Go.Proofs.Ytpcnlifmkhagkaa
