/- Several texts in one: What log.Head does, called at a log that lies in memory; What the document's Fall and Quit of a head do; What the document's Quit of a head does; Heads: what is laid into the cells of an answer. -/
import Derived.Test.YtmjekpdgmdpndaaKJ05
import Derived.Test.YtmjekpdgmdpndaaKLog5
import Derived.Test.YtmjekpdgmdpndaaKJ30
import Derived.Test.YtmjekpdgmdpndaaKJ07
import Derived.Test.YtmjekpdgmdpndaaKHeadF
import Derived.Test.YtmjekpdgmdpndaaKJ10
import Derived.OwnWalk
import Derived.Deep.DeepCutAuto
namespace Go.Proofs.Ytmjekpdgmdpndaa
open Go.RowKit
attribute [local go_sem ↓] Go.wp_at_zero Go.wp_at_succ
/-- Open deeds lie in memory, with their parts. -/
def OpensAt (w : World) (a : Option Addr) (X : List XD) : Prop := RowAt 4 encO w a X ∧ ∀ x ∈ X, PartsAt w x.2.1.1 x.2.2
theorem OpensAt.below {w w' : World} {a : Option Addr} {X : List XD} (h : OpensAt w a X) (hb : Below w.heap.size w w') : OpensAt w' a X := ⟨h.1.below hb, fun x hx => (h.2 x hx).below hb⟩
theorem OpensAt.get {w : World} {a : Option Addr} {X : List XD} (h : OpensAt w a X) {k : Nat} (hk : k < X.length) : ∃ b o, a = some ⟨b, o, none⟩ ∧ b < w.heap.size ∧ w.cell? ⟨b, o + k * 4, none⟩ = some (.int .i64 X[k].1) ∧
    w.cell? ⟨b, o + k * 4 + 1, none⟩ = some (.slice X[k].2.1.1 X[k].2.2.length X[k].2.1.2) ∧ w.cell? ⟨b, o + k * 4 + 2, none⟩ = some (.bool true) ∧ w.cell? ⟨b, o + k * 4 + 3, none⟩ = some (.slice none 0 0) ∧ PartsAt w X[k].2.1.1 X[k].2.2 := by
  rcases h.1 with rfl | ⟨b, o, rfl, hlt, hc⟩
  · simp at hk
  · exact ⟨b, o, rfl, hlt, hc k hk 0 _ rfl, hc k hk 1 _ rfl, hc k hk 2 _ rfl, hc k hk 3 _ rfl, h.2 _ (List.getElem_mem hk)⟩
/-- A head as a value: its log, and what the log made. -/
def HeadAt (w : World) (v : Value) (L : List R3) (g : Int × List D2) : Prop :=
  ∃ (la : Option Addr) (nl lc : Nat) (Y : List XL) (oa : Option Addr) (no oc : Nat) (XO : List XD),
    v = .agg #[.slice la nl lc, .int .i64 g.1, .int .i64 0, .slice oa no oc] ∧ (nl = L.length ∧ Y.map stripL = L ∧ RecsAt w la Y) ∧ (no = XO.length ∧ XO.map stripD = g.2 ∧ OpensAt w oa XO)
theorem HeadAt.below {w w' : World} {v : Value} {L : List R3} {g : Int × List D2} (hh : HeadAt w v L g) (hb : Below w.heap.size w w') : HeadAt w' v L g := by
  obtain ⟨la, nl, lc, Y, oa, no, oc, XO, hv, ⟨h1, h2, h3⟩, h4, h5, h6⟩ := hh
  exact ⟨la, nl, lc, Y, oa, no, oc, XO, hv, ⟨h1, h2, h3.below hb⟩, h4, h5, h6.below hb⟩
/-- On the way: block B holds the head g, whose log is the slice lv; what it has lies from base on. -/
def GAt (B base : Nat) (lv : Value) (w : World) (g : Int × List D2) : Prop :=
  ∃ (oa : Option Addr) (no oc : Nat) (XO : List XD),
    Blk w B #[lv, .int .i64 g.1, .int .i64 0, .slice oa no oc] 29 ∧ OwnL 38 4 encO w base (.slice oa no oc) XO ∧ (∀ x ∈ XO, PartsT base w x.2.1.1 x.2.2) ∧ XO.map stripD = g.2
theorem GAt.below {B base : Nat} {lv : Value} {w w' : World} {g : Int × List D2} (hh : GAt B base lv w g) (hb : Below w.heap.size w w') : GAt B base lv w' g := by
  obtain ⟨oa, no, oc, XO, h1, h2, h3, h4⟩ := hh
  exact ⟨oa, no, oc, XO, h1.below hb h1.lt, h2.below hb (Nat.le_refl _), fun x hx => (h3 x hx).calm (Calm.below hb (Nat.le_refl _)), h4⟩
theorem fill4 {w : World} {N : Nat} {T : TypeId} {c0 c1 c2 c3 : Value} (hb : Blk w N #[c0, c1, c2, c3] T) (v0 v1 v2 v3 : Value) :
    Blk ((((w.setCell ⟨N, 0, none⟩ v0).setCell ⟨N, 1, none⟩ v1).setCell ⟨N, 2, none⟩ v2).setCell ⟨N, 3, none⟩ v3) N #[v0, v1, v2, v3] T ∧ Only T w ((((w.setCell ⟨N, 0, none⟩ v0).setCell ⟨N, 1, none⟩ v1).setCell ⟨N, 2, none⟩ v2).setCell ⟨N, 3, none⟩ v3) := by
  have b0 : Blk (w.setCell ⟨N, 0, none⟩ v0) N #[v0, c1, c2, c3] T := hb.set 0 v0
  have b1 : Blk ((w.setCell ⟨N, 0, none⟩ v0).setCell ⟨N, 1, none⟩ v1) N #[v0, v1, c2, c3] T := b0.set 1 v1
  have b2 : Blk (((w.setCell ⟨N, 0, none⟩ v0).setCell ⟨N, 1, none⟩ v1).setCell ⟨N, 2, none⟩ v2) N #[v0, v1, v2, c3] T := b1.set 2 v2
  have b3 : Blk ((((w.setCell ⟨N, 0, none⟩ v0).setCell ⟨N, 1, none⟩ v1).setCell ⟨N, 2, none⟩ v2).setCell ⟨N, 3, none⟩ v3) N #[v0, v1, v2, v3] T := b2.set 3 v3
  exact ⟨b3, (((Only.setCell (a := ⟨N, 0, none⟩) hb v0).trans (Only.setCell (a := ⟨N, 1, none⟩) b0 v1)).trans (Only.setCell (a := ⟨N, 2, none⟩) b1 v2)).trans (Only.setCell (a := ⟨N, 3, none⟩) b2 v3)⟩

end Go.Proofs.Ytmjekpdgmdpndaa

namespace Go.Proofs.Ytmjekpdgmdpndaa
open Go.RowKit
attribute [local go_sem ↓] Go.wp_at_zero Go.wp_at_succ

theorem fill4K {w : World} {N : Nat} {T : TypeId} {c0 c1 c2 c3 : Value} (hb : Blk w N #[c0, c1, c2, c3] T) (v0 v1 v2 v3 : Value) :
    Blk ((((w.setCell ⟨N, 0, none⟩ v0).setCell ⟨N, 1, none⟩ v1).setCell ⟨N, 2, none⟩ v2).setCell ⟨N, 3, none⟩ v3) N #[v0, v1, v2, v3] T ∧ Keep (fun b => b = N) w ((((w.setCell ⟨N, 0, none⟩ v0).setCell ⟨N, 1, none⟩ v1).setCell ⟨N, 2, none⟩ v2).setCell ⟨N, 3, none⟩ v3) := by
  refine ⟨(fill4 hb v0 v1 v2 v3).1, ?_⟩
  have k0 := (Keep.refl (fun b => b = N) w).setCell (p := ⟨N, 0, none⟩) rfl v0
  have k1 := k0.setCell (p := ⟨N, 1, none⟩) rfl v1
  have k2 := k1.setCell (p := ⟨N, 2, none⟩) rfl v2
  exact k2.setCell (p := ⟨N, 3, none⟩) rfl v3
end Go.Proofs.Ytmjekpdgmdpndaa

namespace Go.Proofs.Ytmjekpdgmdpndaa
open Go.RowKit
attribute [local go_sem ↓] Go.wp_at_zero Go.wp_at_succ
theorem OwnL.kinds {α : Type} {e t t' : TypeId} {size : Nat} {enc : α → List Value} {w : World} {base : Nat} {v : Value} {xs : List α} (h : OwnL e size enc w base v xs) (h1 : e ≠ t) (h2 : e ≠ t') : ∀ k, v.ownBlock = some k → ∃ cs t0, Blk w k cs t0 ∧ t0 ≠ t ∧ t0 ≠ t' := fun k hk => by
  obtain ⟨_, cs, hb⟩ := h.blk hk
  exact ⟨cs, e, hb, h1, h2⟩
end Go.Proofs.Ytmjekpdgmdpndaa

namespace Go.Proofs.Ytmjekpdgmdpndaa
open Go.RowKit
attribute [local go_sem ↓] Go.wp_at_zero Go.wp_at_succ
/-- Messages outlast the cells of a head. -/
theorem MsgsO.set4 {S : World} {N base : Nat} {c0 c1 c2 c3 : Value} {v : Value} {ms : List Q4} (h : MsgsO S base v ms) (hz : Blk S N #[c0, c1, c2, c3] 29) (v0 v1 v2 v3 : Value) : MsgsO ((((S.setCell ⟨N, 0, none⟩ v0).setCell ⟨N, 1, none⟩ v1).setCell ⟨N, 2, none⟩ v2).setCell ⟨N, 3, none⟩ v3) base v ms := by
  obtain ⟨Z, z1, z2, z3⟩ := h
  refine ⟨Z, ?_, z2, fun x hx => (z3 x hx).calm ?_⟩
  · exact (((z1.setOther (a := ⟨N, 0, none⟩) hz (by decide) _).setOther (a := ⟨N, 1, none⟩) (hz.set 0 _) (by decide) _).setOther (a := ⟨N, 2, none⟩) ((hz.set 0 _).set 1 _) (by decide) _).setOther (a := ⟨N, 3, none⟩) (((hz.set 0 _).set 1 _).set 2 _) (by decide) _
  · exact (((Calm.setCell (a := ⟨N, 0, none⟩) hz (by decide) _).trans (Calm.setCell (a := ⟨N, 1, none⟩) (hz.set 0 _) (by decide) _)).trans (Calm.setCell (a := ⟨N, 2, none⟩) ((hz.set 0 _).set 1 _) (by decide) _)).trans (Calm.setCell (a := ⟨N, 3, none⟩) (((hz.set 0 _).set 1 _).set 2 _) (by decide) _)
theorem MsgsO.slice {w : World} {base : Nat} {v : Value} {ms : List Q4} (h : MsgsO w base v ms) : ∃ a n c, v = .slice a n c := by
  obtain ⟨X, h1, -⟩ := h
  exact h1.slice lenM

end Go.Proofs.Ytmjekpdgmdpndaa
