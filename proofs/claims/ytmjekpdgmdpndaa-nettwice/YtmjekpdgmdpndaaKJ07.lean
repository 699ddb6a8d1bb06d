/- Several texts in one: More on plain functions of logs: what is done stays done; ready deeds are the log's; the document's way of making a house comes to the same; What the document's House does, called at a log that lies in memory; A set of pairs of numbers that a call keeps as a map: what a look-up in it gives, and a store into it; What the document's RightLog does; Plain functions of locks: who is at what, with no word of the program; What slices.IndexFunc and slices.ContainsFunc do, with whatever function that tells something of each entry and leaves older memory as it was: deeds, and parts; Houses that right logs make: their deeds, as locks read them. -/
import Derived.Test.YtmjekpdgmdpndaaKLog0
import Derived.Test.YtmjekpdgmdpndaaKLog5
import Derived.Test.YtmjekpdgmdpndaaKJ05
import Derived.Test.YtmjekpdgmdpndaaKPure2
import Derived.Test.YtmjekpdgmdpndaaKJ00
import Derived.WalkSmall
import Derived.Maps.OwnSet
import Derived.Maps.OwnOps
import Derived.ProofKit
import Derived.DeepKeys4
import Derived.Deep.RegionHeld3
import Derived.Deep.RegionWith
import Derived.Laws.EntriesVeiled
namespace Go.Proofs.Ytmjekpdgmdpndaa
open Go.RowKit
theorem hstep_deeds {h : H3} {r : R3} {x : D2} (hx : x ∈ (hstep h r).2.1) : x ∈ h.2.1 ∨ x = (r.2.1, r.2.2) := by
  unfold hstep at hx
  split at hx
  · split at hx
    · exact Or.inl hx
    · rcases List.mem_append.1 hx with hx | hx
      · exact Or.inl hx
      · exact Or.inr (List.mem_singleton.1 hx)
  · split at hx
    · split at hx
      · exact Or.inl (mem_dropD hx).1
      · exact Or.inl hx
    · split at hx
      · exact Or.inl (mem_dropD hx).1
      · exact Or.inl hx
theorem hfold_deeds {x : D2} : ∀ (M : List R3) (h : H3), x ∈ (M.foldl hstep h).2.1 → x ∈ h.2.1 ∨ ∃ r ∈ M, x = (r.2.1, r.2.2)
  | [], h, hx => Or.inl hx
  | r :: M, h, hx => by
    rw [List.foldl_cons] at hx
    rcases hfold_deeds M _ hx with hx | ⟨q, hq, e⟩
    · rcases hstep_deeds hx with hx | e
      · exact Or.inl hx
      · exact Or.inr ⟨r, by simp, e⟩
    · exact Or.inr ⟨q, by simp [hq], e⟩
theorem houseB_deeds {L : List R3} {x : D2} (hx : x ∈ (houseB L).2.1) : ∃ r ∈ L, x = (r.2.1, r.2.2) := by
  rcases hfold_deeds L _ hx with hx | h
  · cases hx
  · exact h

end Go.Proofs.Ytmjekpdgmdpndaa

namespace Go.Proofs.Ytmjekpdgmdpndaa
open Go.RowKit
attribute [local go_sem ↓] Go.wp_at_zero Go.wp_at_succ
theorem RowAt.keep {α : Type} {size : Nat} {enc : α → List Value} {w w' : World} {a : Option Addr} {xs : List α} (h : RowAt size enc w a xs) {R : Nat → Prop} (hk : Keep R w w') (hR : ∀ ad, a = some ad → ¬ R ad.block) : RowAt size enc w' a xs := by
  rcases h with rfl | ⟨b, o, rfl, hlt, hc⟩
  · exact Or.inl rfl
  · exact Or.inr ⟨b, o, rfl, Nat.lt_of_lt_of_le hlt hk.size, fun i hi j u hu => (hk.cell hlt (hR _ rfl)).trans (hc i hi j u hu)⟩

theorem Blk.drew {w : World} {b : Nat} {cs : Array Value} {t : TypeId} (h : Blk w b cs t) : Blk w.drew b cs t := h
/-- A house as the document makes it: its log is the slice lv; what it is ready for, and has done, lies in blocks of its own from base on; of its parts PP holds. -/
def HouseK (PP : Option Addr → List P3 → Prop) (base : Nat) (w : World) (v lv : Value) (h : H3) : Prop :=
  ∃ (ra : Option Addr) (nr rc : Nat) (XR : List XD) (da : Option Addr) (nd dc : Nat),
    v = .agg #[lv, .int .i64 h.1.1, .int .i64 h.1.2.1, .int .i64 h.1.2.2.1, .int .i64 h.1.2.2.2, .slice ra nr rc, .slice da nd dc] ∧
    OwnL 85 2 encD w base (.slice ra nr rc) XR ∧ (∀ x ∈ XR, PP x.2.1.1 x.2.2) ∧ XR.map stripD = h.2.1 ∧ OwnL 3 1 encI w base (.slice da nd dc) h.2.2

theorem HouseK.at {PP : Option Addr → List P3 → Prop} {w : World} {base : Nat} {v : Value} {a : Option Addr} {X : List XL} {n cap : Nat} {h : H3} (hh : HouseK PP base w v (.slice a n cap) h) (hn : n = X.length) (hp : RecsAt w a X) (hb : ∀ a l, PP a l → PartsAt w a l) : HouseAt w v (X.map stripL) h := by
  obtain ⟨ra, nr, rc, XR, da, nd, dc, hv, hR, hT, hD, hI⟩ := hh
  have k2 := hR.at lenD
  have k3 := hI.at lenI
  exact ⟨a, n, cap, X, ra, nr, rc, XR, da, nd, dc, hv, ⟨by rw [List.length_map]; exact hn, rfl, hp⟩, ⟨k2.2.1, hD, k2.1, fun x hx => hb _ _ (hT x hx)⟩, k3.2.1, by rw [k3.2.1]; exact k3.2.2.1, k3.2.2.2, k3.1⟩
end Go.Proofs.Ytmjekpdgmdpndaa

namespace Go.Proofs.Ytmjekpdgmdpndaa
open Go.RowKit Go.Maps Go.WideMaps

abbrev P2 := Int × Int
def klit (p : P2) : Lit := .string (keyBytes [.int .i64 p.1, .int .i64 p.2])
/-- Both numbers are of Go's int. -/
def In64 (p : P2) : Prop := (Lit.int .i64 p.1).wf = true ∧ (Lit.int .i64 p.2).wf = true

/-- Block b is a map that holds just the pairs ps. -/
def SetAt (w : World) (b : Nat) (ps : List P2) : Prop := w.ownsMap (H := Unit) Try.prog 79 (plainElem Try.prog 4) b ps.length (setOf (.lit (.bool true)) (ps.map klit)) ∧ ∀ p ∈ ps, In64 p

theorem SetAt.below {w w' : World} {B b : Nat} {ps : List P2} (h : SetAt w b ps) (hb : Below B w w') (hlt : b < B) : SetAt w' b ps := by
  refine ⟨?_, h.2⟩
  obtain ⟨es, clock, hh, r⟩ := h.1
  exact ⟨es, clock, (hb.block b hlt).trans hh, r⟩
theorem SetAt.alloc {w : World} {b : Nat} {ps : List P2} (h : SetAt w b ps) (o : Obj) : SetAt (w.alloc o) b ps := ⟨h.1.alloc o, h.2⟩
theorem SetAt.lt {w : World} {b : Nat} {ps : List P2} (h : SetAt w b ps) : b < w.heap.size := h.1.lt

end Go.Proofs.Ytmjekpdgmdpndaa

namespace Go.Proofs.Ytmjekpdgmdpndaa
open Go.RowKit
attribute [local go_sem ↓] Go.wp_at_zero Go.wp_at_succ

def rightR (r : R3) : Bool := !decide (r.2.1 < 0) && (decide (r.2.2.length = 0) || decide (wrong r.2.2 3 = 0)) && !(decide (r.1 = 1) && decide (r.2.2.length = 0))
def rightLog (L : List R3) : Bool := L.all rightR && decide (L.length ≤ 60)
theorem rightR_ok {r : R3} (h : rightR r = true) : OkP r.2.2 := by
  simp only [rightR, Bool.and_eq_true, Bool.or_eq_true, decide_eq_true_eq] at h
  rcases h.1.2 with h | h
  · rw [List.eq_nil_of_length_eq_zero h]; exact okP_nil
  · exact okP_wrong h
theorem rightLog_ok {L : List R3} (h : rightLog L = true) : OkL L ∧ L.length ≤ 60 := by
  simp only [rightLog, Bool.and_eq_true, decide_eq_true_eq, List.all_eq_true] at h
  exact ⟨fun r hr => rightR_ok (h.1 r hr), h.2⟩

end Go.Proofs.Ytmjekpdgmdpndaa

namespace Go.Proofs.Ytmjekpdgmdpndaa
open Go.RowKit

/-- Has one of the parts that key? -/
def hasK (l : List P3) (k : Int) : Bool := l.any fun p => decide (p.2.1 = k)
/-- Is somebody at that key? -/
def atK (D : List D2) (k : Int) : Bool := D.any fun x => hasK x.2 k
/-- The first deed at that key, or -1. -/
def whoB : List D2 → Int → Int
  | [], _ => -1
  | x :: t, k => if hasK x.2 k = true then x.1 else whoB t k
theorem whoB_none {D : List D2} {k : Int} (h : atK D k = false) : whoB D k = -1 := by
  induction D with
  | nil => rfl
  | cons x t ih =>
    simp only [atK, List.any_cons, Bool.or_eq_false_iff] at h
    unfold whoB
    rw [h.1, if_neg (by simp)]
    exact ih h.2
theorem whoB_mem {D : List D2} {k : Int} (h : atK D k = true) : ∃ x ∈ D, x.1 = whoB D k ∧ hasK x.2 k = true := by
  induction D with
  | nil => simp [atK] at h
  | cons x t ih =>
    unfold whoB
    by_cases hx : hasK x.2 k = true
    · rw [if_pos hx]; exact ⟨x, by simp, rfl, hx⟩
    · rw [if_neg hx]
      simp only [atK, List.any_cons, Bool.or_eq_true] at h
      rcases h with h | h
      · exact absurd h hx
      · obtain ⟨y, hy, e, hk⟩ := ih h
        exact ⟨y, by simp [hy], e, hk⟩
theorem whoB_neg {D : List D2} (hD : ∀ x ∈ D, 0 ≤ x.1) (k : Int) : decide (whoB D k < 0) = !atK D k := by
  cases h : atK D k
  · rw [whoB_none h]; rfl
  · obtain ⟨x, hx, e, _⟩ := whoB_mem h
    have := hD x hx
    rw [decide_eq_false (by omega)]; rfl
end Go.Proofs.Ytmjekpdgmdpndaa

namespace Go.Proofs.Ytmjekpdgmdpndaa
open Go.RowKit
attribute [local go_sem ↓] Go.wp_at_zero Go.wp_at_succ

/-- The first entry of which p holds, or -1. -/
def IdxP {α : Type} (X : List α) (p : α → Bool) (r : Int) : Prop := (r = -1 ∧ ∀ x ∈ X, p x = false) ∨ ∃ (i : Nat) (h : i < X.length), r = i ∧ p X[i] = true ∧ ∀ j (hj : j < X.length), j < i → p X[j] = false
theorem IdxP.any {α : Type} {X : List α} {p : α → Bool} {r : Int} (h : IdxP X p r) : decide (0 ≤ r) = X.any p := by
  rcases h with ⟨rfl, h⟩ | ⟨i, hi, rfl, hp, _⟩
  · have : X.any p = false := by rw [List.any_eq_false]; intro x hx; rw [h x hx]; simp
    rw [this]; rfl
  · have : X.any p = true := by rw [List.any_eq_true]; exact ⟨_, List.getElem_mem hi, hp⟩
    rw [this]
    exact decide_eq_true (by omega)

end Go.Proofs.Ytmjekpdgmdpndaa

namespace Go.Proofs.Ytmjekpdgmdpndaa
open Go.RowKit

/-- What a house is ready for, as it lies. -/
structure RdyAt (w : World) (ra : Option Addr) (nr : Nat) (XR : List XD) (D : List D2) : Prop where
  n : nr = XR.length
  few : XR.length ≤ 9223372036854775807
  small : ∀ x ∈ XR, x.2.2.length ≤ 9223372036854775807
  lies : DeedsAt w ra XR
  says : XR.map stripD = D
theorem RdyAt.below {w w' : World} {ra : Option Addr} {nr : Nat} {XR : List XD} {D : List D2} (h : RdyAt w ra nr XR D) (hb : Below w.heap.size w w') : RdyAt w' ra nr XR D := ⟨h.n, h.few, h.small, h.lies.below hb, h.says⟩
/-- A house's value, opened. -/
theorem HouseAt.open {w : World} {v : Value} {L : List R3} {h : H3} {k : Nat} (hh : HouseAt w v L h) (hi : HInv k h) (hk : k ≤ 9223372036854775807) : ∃ (la : Option Addr) (nl lc : Nat) (ra : Option Addr) (nr rc : Nat) (XR : List XD) (da : Option Addr) (nd dc : Nat),
    v = .agg #[.slice la nl lc, .int .i64 h.1.1, .int .i64 h.1.2.1, .int .i64 h.1.2.2.1, .int .i64 h.1.2.2.2, .slice ra nr rc, .slice da nd dc] ∧ RdyAt w ra nr XR h.2.1 := by
  obtain ⟨la, nl, lc, Y, ra, nr, rc, XR, da, nd, dc, hv, _, ⟨h4, h5, h6⟩, _⟩ := hh
  refine ⟨la, nl, lc, ra, nr, rc, XR, da, nd, dc, hv, h4, ?_, ?_, h6, h5⟩
  · have h1 := hi.few
    rw [← h5, List.length_map] at h1
    omega
  · intro x hx
    have h1 := (hi.ok (stripD x) (by rw [← h5]; exact List.mem_map.2 ⟨x, hx, rfl⟩)).1
    have h2 : x.2.2.length ≤ 4 := h1
    omega
end Go.Proofs.Ytmjekpdgmdpndaa
