/- Heads in memory, none of it in blocks of a set R; heads that a call has made. -/
import Derived.Test.YtmjekpdgmdpndaaKJ11
import Derived.Test.YtmjekpdgmdpndaaKHearA
import Derived.Test.YtmjekpdgmdpndaaKJ13
namespace Go.Proofs.Ytmjekpdgmdpndaa
open Go.RowKit

theorem Blk.cells4 {w : World} {N : Nat} {T : TypeId} {c0 c1 c2 c3 : Value} (h : Blk w N #[c0, c1, c2, c3] T) : w.cell? ⟨N, 0, none⟩ = some c0 ∧ w.cell? ⟨N, 1, none⟩ = some c1 ∧ w.cell? ⟨N, 2, none⟩ = some c2 ∧ w.cell? ⟨N, 3, none⟩ = some c3 := ⟨h.cell 0, h.cell 1, h.cell 2, h.cell 3⟩
theorem Blk.free4 {w : World} {N : Nat} {T : TypeId} {c0 c1 c2 c3 : Value} (h : Blk w N #[c0, c1, c2, c3] T) : w.frozen? ⟨N, 0, none⟩ = false ∧ w.frozen? ⟨N, 1, none⟩ = false ∧ w.frozen? ⟨N, 2, none⟩ = false ∧ w.frozen? ⟨N, 3, none⟩ = false := ⟨h.free 0, h.free 1, h.free 2, h.free 3⟩
theorem OwnL.slice {α : Type} {e : TypeId} {size : Nat} {enc : α → List Value} {w : World} {base : Nat} {v : Value} {xs : List α} (he : ∀ x, (enc x).length = size) (h : OwnL e size enc w base v xs) : ∃ a n c, v = .slice a n c := by
  obtain ⟨a, c, hv, _⟩ := h.row he
  exact ⟨a, _, c, hv⟩
/-- Whole numbers that lie outside R. -/
def IntsR (R : Nat → Prop) (w : World) (a : Option Addr) (l : List Int) : Prop := RowAt 1 encI w a l ∧ Out R a l.length
theorem IntsR.keep {R : Nat → Prop} {w w' : World} {a : Option Addr} {l : List Int} (h : IntsR R w a l) (hk : Keep R w w') : IntsR R w' a l := ⟨h.1.keepR h.2 hk, h.2⟩
theorem IntsR.below {R : Nat → Prop} {w w' : World} {a : Option Addr} {l : List Int} (h : IntsR R w a l) (hb : Below w.heap.size w w') : IntsR R w' a l := h.keep (keep_of_below hb)
theorem IntsR.wide {R R' : Nat → Prop} {w : World} {a : Option Addr} {l : List Int} (h : IntsR R w a l) (hR : ∀ b, R' b → R b ∨ w.heap.size ≤ b) : IntsR R' w a l := ⟨h.1, h.1.out h.2 hR⟩
theorem IntsR.nil (R : Nat → Prop) (w : World) (a : Option Addr) : IntsR R w a [] := ⟨Or.inl rfl, Or.inl rfl⟩
theorem PartsT.outR {base : Nat} {w : World} {a : Option Addr} {l : List P3} (h : PartsT base w a l) {R : Nat → Prop} (hR : ∀ b, R b → b < base) : PartsR R w a l := by
  refine ⟨h.at, ?_⟩
  rcases h with rfl | ⟨b, o, cs, rfl, hb, -, -⟩
  · exact Or.inl rfl
  · refine Or.inr (fun ad had hr => ?_)
    cases had
    have h' : b < base := hR _ hr
    omega

/-- What an open deed points to lies outside R. -/
def OpR (R : Nat → Prop) (w : World) (x : XO) : Prop := PartsR R w x.2.1.1.1 x.2.1.2 ∧ IntsR R w x.2.2.2.1.1 x.2.2.2.2
theorem OpR.keep {R : Nat → Prop} {w w' : World} {x : XO} (h : OpR R w x) (hk : Keep R w w') : OpR R w' x := ⟨h.1.keep hk, h.2.keep hk⟩
theorem OpR.below {R : Nat → Prop} {w w' : World} {x : XO} (h : OpR R w x) (hb : Below w.heap.size w w') : OpR R w' x := h.keep (keep_of_below hb)
theorem OpR.wide {R R' : Nat → Prop} {w : World} {x : XO} (h : OpR R w x) (hR : ∀ b, R' b → R b ∨ w.heap.size ≤ b) : OpR R' w x := ⟨h.1.wide hR, h.2.wide hR⟩

/-- A head in memory, laid open; nothing of it lies in R. -/
structure HeadF (R : Nat → Prop) (w : World) (la : Option Addr) (nl : Nat) (Y : List XL) (oa : Option Addr) (no : Nat) (X : List XO) (L : List R3) (O : List O4) : Prop where
  ln : nl = Y.length
  log : RowAt 3 encL w la Y
  lout : Out R la Y.length
  says : Y.map stripL = L
  parts : ∀ y ∈ Y, PartsR R w y.2.2.1.1 y.2.2.2
  on : no = X.length
  opn : RowAt 4 encQ w oa X
  oout : Out R oa X.length
  osays : X.map stripO = O
  oparts : ∀ x ∈ X, OpR R w x
section
variable {R R' : Nat → Prop} {w w' : World} {la : Option Addr} {nl : Nat} {Y : List XL} {oa : Option Addr} {no : Nat} {X : List XO} {L : List R3} {O : List O4}
theorem HeadF.keep (H : HeadF R w la nl Y oa no X L O) (hk : Keep R w w') : HeadF R w' la nl Y oa no X L O :=
  ⟨H.ln, H.log.keepR H.lout hk, H.lout, H.says, fun y hy => (H.parts y hy).keep hk, H.on, H.opn.keepR H.oout hk, H.oout, H.osays, fun x hx => (H.oparts x hx).keep hk⟩
theorem HeadF.below (H : HeadF R w la nl Y oa no X L O) (hb : Below w.heap.size w w') : HeadF R w' la nl Y oa no X L O := H.keep (keep_of_below hb)
theorem HeadF.wide (H : HeadF R w la nl Y oa no X L O) (hR : ∀ b, R' b → R b ∨ w.heap.size ≤ b) : HeadF R' w la nl Y oa no X L O :=
  ⟨H.ln, H.log, H.log.out H.lout hR, H.says, fun y hy => (H.parts y hy).wide hR, H.on, H.opn, H.opn.out H.oout hR, H.osays, fun x hx => (H.oparts x hx).wide hR⟩
end

/-- A head as a value; nothing of it lies in R. -/
def HeadV (R : Nat → Prop) (w : World) (v : Value) (g : Gh) : Prop :=
  ∃ (la : Option Addr) (nl lc : Nat) (Y : List XL) (oa : Option Addr) (no oc : Nat) (X : List XO),
    v = .agg #[.slice la nl lc, .int .i64 g.boot, .int .i64 g.next, .slice oa no oc] ∧ HeadF R w la nl Y oa no X g.log g.opn
theorem HeadV.keep {R : Nat → Prop} {w w' : World} {v : Value} {g : Gh} (H : HeadV R w v g) (hk : Keep R w w') : HeadV R w' v g := by
  obtain ⟨la, nl, lc, Y, oa, no, oc, X, hv, hf⟩ := H
  exact ⟨la, nl, lc, Y, oa, no, oc, X, hv, hf.keep hk⟩
theorem HeadV.below {R : Nat → Prop} {w w' : World} {v : Value} {g : Gh} (H : HeadV R w v g) (hb : Below w.heap.size w w') : HeadV R w' v g := H.keep (keep_of_below hb)
theorem HeadV.wide {R R' : Nat → Prop} {w : World} {v : Value} {g : Gh} (H : HeadV R w v g) (hR : ∀ b, R' b → R b ∨ w.heap.size ≤ b) : HeadV R' w v g := by
  obtain ⟨la, nl, lc, Y, oa, no, oc, X, hv, hf⟩ := H
  exact ⟨la, nl, lc, Y, oa, no, oc, X, hv, hf.wide hR⟩
theorem HeadV.g {R : Nat → Prop} {w : World} {v : Value} {g : Gh} (H : HeadV R w v g) : HeadG w v g.log g.boot g.next g.opn := by
  obtain ⟨la, nl, lc, Y, oa, no, oc, X, hv, F⟩ := H
  exact ⟨la, nl, lc, Y, oa, no, oc, X, hv, ⟨by rw [F.ln, ← F.says, List.length_map], F.says, F.log, fun y hy => (F.parts y hy).1⟩, F.on, F.osays, F.opn, fun x hx => ⟨(F.oparts x hx).1.1, (F.oparts x hx).2.1⟩⟩

/-- Messages that a call has made: they, and their parts, lie in blocks of their own kinds, from base on. -/
def MsgsO (w : World) (base : Nat) (v : Value) (ms : List Q4) : Prop := ∃ X : List XM, OwnL 43 4 encM w base v X ∧ X.map stripM = ms ∧ ∀ x ∈ X, PartsT base w x.2.2.2.1.1 x.2.2.2.2
theorem MsgsO.nil (w : World) (base : Nat) : MsgsO w base (.slice none 0 0) [] := ⟨[], OwnL.nil _ _, rfl, fun x hx => by cases hx⟩
theorem MsgsO.below {w w' : World} {base : Nat} {v : Value} {ms : List Q4} (h : MsgsO w base v ms) (hb : Below w.heap.size w w') : MsgsO w' base v ms := by
  obtain ⟨X, h1, h2, h3⟩ := h
  exact ⟨X, h1.below hb (Nat.le_refl _), h2, fun x hx => (h3 x hx).calm (Calm.below hb (Nat.le_refl _))⟩
theorem MsgsO.mono {w : World} {base base' : Nat} {v : Value} {ms : List Q4} (h : MsgsO w base v ms) (hb : base' ≤ base) : MsgsO w base' v ms := by
  obtain ⟨X, h1, h2, h3⟩ := h
  exact ⟨X, h1.mono hb, h2, fun x hx => (h3 x hx).mono hb⟩
theorem MsgsO.v {w : World} {base : Nat} {v : Value} {ms : List Q4} (h : MsgsO w base v ms) {R : Nat → Prop} (hR : ∀ b, R b → b < base) : MsgsV R w v ms := by
  obtain ⟨X, h1, h2, h3⟩ := h
  obtain ⟨a, c, rfl, hr, _, _⟩ := h1.row lenM
  exact ⟨a, _, c, X, rfl, rfl, hr, h1.outR hR _, h2, fun x hx => (h3 x hx).outR hR⟩

end Go.Proofs.Ytmjekpdgmdpndaa
