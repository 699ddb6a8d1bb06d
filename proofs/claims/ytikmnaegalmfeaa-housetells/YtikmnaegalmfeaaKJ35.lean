/- Several texts in one: Small facts for the statements about chapter 7; A set of numbers that a call keeps as a map: what a look-up in it gives, and a store into it; The little map of the document's Hear: from what is told to what is noted. -/
import Derived.Test.YtikmnaegalmfeaaKHousA
import Derived.Test.YtikmnaegalmfeaaKJ13
namespace Go.Proofs.Ytikmnaegalmfeaa
open Go.RowKit

theorem houseN_open {base : Nat} {w : World} {v : Value} {L : List R3} {h : H3} (hh : HouseN base w v L h) : ∃ (la : Option Addr) (nl lc : Nat) (t0 t1 t2 t3 : Int) (ra : Option Addr) (nr rc : Nat) (da : Option Addr) (nd dc : Nat), v = .agg #[.slice la nl lc, .int .i64 t0, .int .i64 t1, .int .i64 t2, .int .i64 t3, .slice ra nr rc, .slice da nd dc] := by
  obtain ⟨la, nl, lc, Y, ra, nr, rc, XR, da, nd, dc, hv, -⟩ := hh
  exact ⟨la, nl, lc, _, _, _, _, ra, nr, rc, da, nd, dc, hv⟩
theorem msgX_parts {w : World} {M : List Q4} : ∀ x ∈ M.map msgX, PartsAt w x.2.2.2.1.1 x.2.2.2.2 := fun x hx => by
  obtain ⟨q, _, rfl⟩ := List.mem_map.1 hx
  exact Or.inl rfl
theorem msgX_small {M : List Q4} : ∀ x ∈ M.map msgX, x.2.2.2.2.length ≤ 9223372036854775807 := fun x hx => by
  obtain ⟨q, _, rfl⟩ := List.mem_map.1 hx
  simp [msgX]
theorem hearM_len (L : List R3) (me k d : Int) (l : List P3) : (hearM L me k d l).length ≤ 1 := by
  unfold hearM
  rw [List.length_map]
  cases hearS L k d l <;> simp

end Go.Proofs.Ytikmnaegalmfeaa

namespace Go.Proofs.Ytikmnaegalmfeaa
open Go.RowKit Go.Maps Go.WideMaps

def ikl (n : Int) : Lit := .int .i64 n
/-- The number is one of Go's int. -/
def In1 (n : Int) : Prop := (Lit.int .i64 n).wf = true
theorem lawInt : Keyed Try.prog 3 := int_keyed Try.underlying3
theorem keyOf1 (n : Int) (h : In1 n) : keyOf Try.prog 3 (.int .i64 n) = some (ikl n) := keyOf_int_mk Try.underlying3 h
theorem ikl_inj {p q : Int} (h : ikl p = ikl q) : p = q := by injection h

/-- Block b is a map that holds just the numbers ps. -/
def SetI (w : World) (b : Nat) (ps : List Int) : Prop := w.ownsMap (H := Unit) Try.prog 3 (plainElem Try.prog 4) b ps.length (setOf (.lit (.bool true)) (ps.map ikl)) ∧ ∀ p ∈ ps, In1 p

theorem atKeyI_fold (q : Int) (hq : In1 q) : ∀ (ps : List Int) (m : DataW Unit), IsMap m → (∀ p ∈ ps, In1 p) →
    ((ps.map ikl).foldl (fun m x => m.put x (.lit (.bool true))) m).atKey (ikl q) (.lit (.bool false)) = if (ps.any fun p => decide (p = q)) = true then .lit (.bool true) else m.atKey (ikl q) (.lit (.bool false))
  | [], m, _, _ => by simp
  | p :: t, m, hm, h => by
    have hp := h p (by simp)
    rw [List.map_cons, List.foldl_cons, atKeyI_fold q hq t _ (hm.put _ _) (fun r hr => h r (by simp [hr])), List.any_cons]
    by_cases e : p = q
    · subst e
      rw [atKey_put_same hm (lawInt.key (keyOf1 p hp))]
      simp
    · rw [atKey_put_other (fun h => e (ikl_inj h.symm))]
      simp [e]
theorem atKeyI_setOf (ps : List Int) (hps : ∀ p ∈ ps, In1 p) (q : Int) (hq : In1 q) : (setOf (H := Unit) (.lit (.bool true)) (ps.map ikl)).atKey (ikl q) (.lit (.bool false)) = .lit (.bool (ps.any fun p => decide (p = q))) := by
  unfold setOf
  rw [atKeyI_fold q hq ps _ isMap_empty hps]
  cases ps.any fun p => decide (p = q) <;> rfl

theorem SetI.lookup {w : World} {b : Nat} {ps : List Int} (h : SetI w b ps) (q : Int) (hq : In1 q) : (Instr.lookup 58 (.map (some b)) (.int .i64 q) false).run Try.prog w = .ok (.bool (ps.any fun p => decide (p = q))) w := by
  obtain ⟨v, pl, hrun, hv⟩ := h.1.lookup lawInt Try.underlying58 (zeroBool w) (plainElem_bool Try.underlying4 false) (keyOf1 q hq)
  rw [atKeyI_setOf ps h.2 q hq] at hv
  rw [plainElem_bool_inv hv] at hrun
  exact hrun

theorem SetI.below {w w' : World} {B b : Nat} {ps : List Int} (h : SetI w b ps) (hb : Below B w w') (hlt : b < B) : SetI w' b ps := by
  refine ⟨?_, h.2⟩
  obtain ⟨es, clock, hh, r⟩ := h.1
  exact ⟨es, clock, (hb.block b hlt).trans hh, r⟩
theorem SetI.alloc {w : World} {b : Nat} {ps : List Int} (h : SetI w b ps) (o : Obj) : SetI (w.alloc o) b ps := ⟨h.1.alloc o, h.2⟩
theorem SetI.lt {w : World} {b : Nat} {ps : List Int} (h : SetI w b ps) : b < w.heap.size := h.1.lt

end Go.Proofs.Ytikmnaegalmfeaa

namespace Go.Proofs.Ytikmnaegalmfeaa
open Go.RowKit Go.Maps Go.WideMaps

set_option maxRecDepth 100000 in
theorem zeroInt (w : World) : (zeroValue 3).run Try.prog w = .ok (.int .i64 0) w := by kernel_rfl
set_option maxRecDepth 100000 in
theorem kindMap (w : World) (k : Int) (hk : k = 4 ∨ k = 5) : ∃ w1 w2, (Instr.mapUpdate 76 (.map (some w.heap.size)) (.int .i64 4) (.int .i64 2)).run Try.prog (w.alloc (.map #[] 0)) = .ok () w1 ∧ (Instr.mapUpdate 76 (.map (some w.heap.size)) (.int .i64 5) (.int .i64 3)).run Try.prog w1 = .ok () w2 ∧
    (Instr.lookup 76 (.map (some w.heap.size)) (.int .i64 k) false).run Try.prog w2 = .ok (.int .i64 (k - 2)) w2 ∧ Below w.heap.size w w2 := by
  have h0 := World.ownsMap_made (H := Unit) w Try.prog 3 (plainElem Try.prog 3)
  obtain ⟨w1, r1, o1, b1⟩ := h0.update lawInt Try.underlying76 (by unfold maxLen; omega) (keyOf1 4 (by unfold In1; decide)) (plainElem_int Try.underlying3 (a := 2) (by decide))
  obtain ⟨w2, r2, o2, b2⟩ := o1.update lawInt Try.underlying76 (by unfold maxLen; omega) (keyOf1 5 (by unfold In1; decide)) (plainElem_int Try.underlying3 (a := 3) (by decide))
  obtain ⟨c, r3, hat, _⟩ := o2.lookup_int lawInt Try.underlying76 Try.underlying3 (zeroInt w2) (key := .int .i64 k) (kl := ikl k) (keyOf1 k (by rcases hk with rfl | rfl <;> (unfold In1; decide)))
  have hc : c = k - 2 := by
    rcases hk with rfl | rfl
    · have e : (((DataW.map [] : DataW Unit).put (ikl 4) (.lit (.int .i64 2))).put (ikl 5) (.lit (.int .i64 3))).atKey (ikl 4) (.lit (.int .i64 0)) = .lit (.int .i64 2) := by kernel_rfl
      rw [e] at hat
      injection hat with hat
      injection hat with _ hat
      omega
    · have e : (((DataW.map [] : DataW Unit).put (ikl 4) (.lit (.int .i64 2))).put (ikl 5) (.lit (.int .i64 3))).atKey (ikl 5) (.lit (.int .i64 0)) = .lit (.int .i64 3) := by kernel_rfl
      rw [e] at hat
      injection hat with hat
      injection hat with _ hat
      omega
  rw [hc] at r3
  exact ⟨w1, w2, r1, r2, r3, (((Below.refl _ w).alloc (Nat.le_refl _) _).grown b1 (by simp) (fun q hq => by cases hq; exact Nat.le_refl _)).grown b2 (by have := b1.size; simp at this; omega) (fun q hq => by cases hq; exact Nat.le_refl _)⟩

end Go.Proofs.Ytikmnaegalmfeaa
