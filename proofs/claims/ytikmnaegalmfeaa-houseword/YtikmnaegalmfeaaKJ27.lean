/- Several texts in one: Houses in memory, none of it in blocks of a set R: such a house outlasts whatever is stored into R's blocks; What the document's note does. -/
import Derived.Test.YtikmnaegalmfeaaKJ19
import Derived.Test.YtikmnaegalmfeaaKHouseP
import Derived.Test.YtikmnaegalmfeaaKFresh
import Derived.Deep.RegionHeld3
namespace Go.Proofs.Ytikmnaegalmfeaa
open Go.RowKit

/-- A slice that lies outside R, or is empty. -/
def Out (R : Nat → Prop) (a : Option Addr) (n : Nat) : Prop := n = 0 ∨ ∀ ad, a = some ad → ¬ R ad.block
theorem Out.zero (R : Nat → Prop) (a : Option Addr) : Out R a 0 := Or.inl rfl
theorem Out.none (R : Nat → Prop) (n : Nat) : Out R none n := Or.inr (fun _ h => by cases h)
/-- Parts that lie outside R. -/
def PartsR (R : Nat → Prop) (w : World) (a : Option Addr) (l : List P3) : Prop := PartsAt w a l ∧ Out R a l.length
theorem RowAt.keepR {α : Type} {size : Nat} {enc : α → List Value} {w w' : World} {a : Option Addr} {xs : List α} {R : Nat → Prop} (h : RowAt size enc w a xs) (ho : Out R a xs.length) (hk : Keep R w w') : RowAt size enc w' a xs := by
  rcases ho with h0 | ho
  · exact Or.inl (List.eq_nil_of_length_eq_zero h0)
  · exact h.keep hk ho
theorem PartsR.keep {R : Nat → Prop} {w w' : World} {a : Option Addr} {l : List P3} (h : PartsR R w a l) (hk : Keep R w w') : PartsR R w' a l := by
  refine ⟨?_, h.2⟩
  rcases h.1 with h0 | ⟨b, o, rfl, hlt, hc⟩
  · exact Or.inl h0
  · rcases h.2 with h0 | ho
    · exact Or.inl (List.eq_nil_of_length_eq_zero h0)
    · refine Or.inr ⟨b, o, rfl, Nat.lt_of_lt_of_le hlt hk.size, fun i hi => ?_⟩
      obtain ⟨h1, h2, h3⟩ := hc i hi
      have hb : ¬ R b := ho _ rfl
      exact ⟨(hk.cell hlt hb).trans h1, (hk.cell hlt hb).trans h2, (hk.cell hlt hb).trans h3⟩
theorem keep_of_below {R : Nat → Prop} {w w' : World} (hb : Below w.heap.size w w') : Keep R w w' := Keep.ofBelow hb (fun k h1 h2 => by omega)
theorem PartsR.below {R : Nat → Prop} {w w' : World} {a : Option Addr} {l : List P3} (h : PartsR R w a l) (hb : Below w.heap.size w w') : PartsR R w' a l := h.keep (keep_of_below hb)
theorem PartsR.nil (R : Nat → Prop) (w : World) (a : Option Addr) : PartsR R w a [] := ⟨Or.inl rfl, Or.inl rfl⟩
theorem RowAt.out {α : Type} {size : Nat} {enc : α → List Value} {w : World} {a : Option Addr} {xs : List α} {R R' : Nat → Prop} (h : RowAt size enc w a xs) (ho : Out R a xs.length) (hR : ∀ b, R' b → R b ∨ w.heap.size ≤ b) : Out R' a xs.length := by
  rcases h with rfl | ⟨b, o, rfl, hlt, hc⟩
  · exact Or.inl rfl
  · rcases ho with h0 | ho
    · exact Or.inl h0
    · refine Or.inr (fun ad had hr => ?_)
      cases had
      rcases hR _ hr with h | h
      · exact ho _ rfl h
      · have h' : w.heap.size ≤ b := h
        omega
theorem PartsR.wide {R R' : Nat → Prop} {w : World} {a : Option Addr} {l : List P3} (h : PartsR R w a l) (hR : ∀ b, R' b → R b ∨ w.heap.size ≤ b) : PartsR R' w a l :=
  ⟨h.1, RowAt.out (parts_row h.1) h.2 hR⟩
/-- What lies in memory lies outside nothing, and outside what is not there yet. -/
theorem PartsAt.outR {w : World} {a : Option Addr} {l : List P3} (h : PartsAt w a l) {R : Nat → Prop} (hR : ∀ b, R b → w.heap.size ≤ b) : PartsR R w a l :=
  PartsR.wide (R := fun _ => False) ⟨h, Or.inr (fun _ _ h => h)⟩ (fun b hb => Or.inr (hR b hb))
theorem OwnL.outR {α : Type} {e : TypeId} {size : Nat} {enc : α → List Value} {w : World} {base : Nat} {a : Option Addr} {n cap : Nat} {xs : List α} (h : OwnL e size enc w base (.slice a n cap) xs) {R : Nat → Prop} (hR : ∀ b, R b → b < base) (m : Nat) : Out R a m := by
  rcases h.2 with ⟨hv, h0⟩ | ⟨g, cap, cur, hv, hg, hh, hcap, hmx, hsz, htake⟩
  · cases hv; exact Out.none _ _
  · cases hv
    refine Or.inr (fun ad had hr => ?_)
    cases had
    have h1 : g < base := hR _ hr
    omega

/-- A house in memory, laid open; nothing of it lies in R. -/
structure HouseF (R : Nat → Prop) (w : World) (la : Option Addr) (nl : Nat) (Y : List XL) (ra : Option Addr) (nr : Nat) (XR : List XD) (da : Option Addr) (nd : Nat) (L : List R3) (h : H3) : Prop where
  ln : nl = Y.length
  log : RowAt 3 encL w la Y
  lout : Out R la Y.length
  says : Y.map stripL = L
  parts : ∀ y ∈ Y, PartsR R w y.2.2.1.1 y.2.2.2
  rn : nr = XR.length
  rdy : RowAt 2 encD w ra XR
  rout : Out R ra XR.length
  rsays : XR.map stripD = h.2.1
  rparts : ∀ x ∈ XR, PartsR R w x.2.1.1 x.2.2
  dn : nd = h.2.2.length
  done : RowAt 1 encI w da h.2.2
  dout : Out R da h.2.2.length
theorem HouseF.keep {R : Nat → Prop} {w w' : World} {la : Option Addr} {nl : Nat} {Y : List XL} {ra : Option Addr} {nr : Nat} {XR : List XD} {da : Option Addr} {nd : Nat} {L : List R3} {h : H3} (H : HouseF R w la nl Y ra nr XR da nd L h) (hk : Keep R w w') : HouseF R w' la nl Y ra nr XR da nd L h :=
  ⟨H.ln, H.log.keepR H.lout hk, H.lout, H.says, fun y hy => (H.parts y hy).keep hk, H.rn, H.rdy.keepR H.rout hk, H.rout, H.rsays, fun x hx => (H.rparts x hx).keep hk, H.dn, H.done.keepR H.dout hk, H.dout⟩
theorem HouseF.below {R : Nat → Prop} {w w' : World} {la : Option Addr} {nl : Nat} {Y : List XL} {ra : Option Addr} {nr : Nat} {XR : List XD} {da : Option Addr} {nd : Nat} {L : List R3} {h : H3} (H : HouseF R w la nl Y ra nr XR da nd L h) (hb : Below w.heap.size w w') : HouseF R w' la nl Y ra nr XR da nd L h := H.keep (keep_of_below hb)
theorem HouseF.wide {R R' : Nat → Prop} {w : World} {la : Option Addr} {nl : Nat} {Y : List XL} {ra : Option Addr} {nr : Nat} {XR : List XD} {da : Option Addr} {nd : Nat} {L : List R3} {h : H3} (H : HouseF R w la nl Y ra nr XR da nd L h) (hR : ∀ b, R' b → R b ∨ w.heap.size ≤ b) : HouseF R' w la nl Y ra nr XR da nd L h :=
  ⟨H.ln, H.log, H.log.out H.lout hR, H.says, fun y hy => (H.parts y hy).wide hR, H.rn, H.rdy, H.rdy.out H.rout hR, H.rsays, fun x hx => (H.rparts x hx).wide hR, H.dn, H.done, H.done.out H.dout hR⟩
/-- A house as a value; nothing of it lies in R. -/
def HouseV (R : Nat → Prop) (w : World) (v : Value) (L : List R3) (h : H3) : Prop :=
  ∃ (la : Option Addr) (nl lc : Nat) (Y : List XL) (ra : Option Addr) (nr rc : Nat) (XR : List XD) (da : Option Addr) (nd dc : Nat),
    v = .agg #[.slice la nl lc, .int .i64 h.1.1, .int .i64 h.1.2.1, .int .i64 h.1.2.2.1, .int .i64 h.1.2.2.2, .slice ra nr rc, .slice da nd dc] ∧ HouseF R w la nl Y ra nr XR da nd L h
theorem HouseV.keep {R : Nat → Prop} {w w' : World} {v : Value} {L : List R3} {h : H3} (H : HouseV R w v L h) (hk : Keep R w w') : HouseV R w' v L h := by
  obtain ⟨la, nl, lc, Y, ra, nr, rc, XR, da, nd, dc, hv, hf⟩ := H
  exact ⟨la, nl, lc, Y, ra, nr, rc, XR, da, nd, dc, hv, hf.keep hk⟩
theorem HouseV.below {R : Nat → Prop} {w w' : World} {v : Value} {L : List R3} {h : H3} (H : HouseV R w v L h) (hb : Below w.heap.size w w') : HouseV R w' v L h := H.keep (keep_of_below hb)
theorem HouseV.wide {R R' : Nat → Prop} {w : World} {v : Value} {L : List R3} {h : H3} (H : HouseV R w v L h) (hR : ∀ b, R' b → R b ∨ w.heap.size ≤ b) : HouseV R' w v L h := by
  obtain ⟨la, nl, lc, Y, ra, nr, rc, XR, da, nd, dc, hv, hf⟩ := H
  exact ⟨la, nl, lc, Y, ra, nr, rc, XR, da, nd, dc, hv, hf.wide hR⟩
end Go.Proofs.Ytikmnaegalmfeaa

namespace Go.Proofs.Ytikmnaegalmfeaa
open Go.RowKit
attribute [local go_sem ↓] Go.wp_at_zero Go.wp_at_succ

theorem FreshL.outR {α : Type} {e : TypeId} {size : Nat} {enc : α → List Value} {w : World} {B : Nat} {a : Option Addr} {n cap : Nat} {xs : List α} (h : FreshL e size enc w B (.slice a n cap) xs) {R : Nat → Prop} (hR : ∀ b, R b → b < B) : Out R a xs.length := by
  rcases h with h | ⟨h0, _⟩
  · exact h.outR hR _
  · exact Or.inl (by rw [h0]; rfl)
theorem FreshL.mono {α : Type} {e : TypeId} {size : Nat} {enc : α → List Value} {w : World} {B : Nat} {v : Value} {xs : List α} (h : FreshL e size enc w B v xs) {B' : Nat} (hB : B' ≤ B) : FreshL e size enc w B' v xs := by
  rcases h with h | h
  · exact Or.inl (OwnL.mono h hB)
  · exact Or.inr h
theorem heap3a (w : World) (o o' o'' : Obj) {cs : Array Value} {t : TypeId} (h : o'' = .cells cs t) : Blk (((w.alloc o).alloc o').alloc o'') (w.heap.size + 1 + 1) cs t := by
  subst h
  have := Blk.new ((w.alloc o).alloc o') cs t
  simpa using this
theorem below3 (w : World) (o o' o'' : Obj) : Below w.heap.size w (((w.alloc o).alloc o').alloc o'') := (below2 w o o').alloc (by simp; omega) _

end Go.Proofs.Ytikmnaegalmfeaa
