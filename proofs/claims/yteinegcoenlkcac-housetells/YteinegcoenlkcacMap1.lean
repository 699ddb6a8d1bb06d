/- A set of numbers that a call keeps as a map: what a look-up in it gives, and a store into it. -/
import Derived.Test.YteinegcoenlkcacMap2
namespace Go.Proofs.Yteinegcoenlkcac
open Go.RowKit Go.Maps Go.WideMaps

def ikl (n : Int) : Lit := .int .i64 n
/-- The number is one of Go's int. -/
def In1 (n : Int) : Prop := (Lit.int .i64 n).wf = true
theorem lawInt : Keyed Try.prog 3 := int_keyed Try.underlying3
theorem keyOf1 (n : Int) (h : In1 n) : keyOf Try.prog 3 (.int .i64 n) = some (ikl n) := keyOf_int_mk Try.underlying3 h
theorem ikl_inj {p q : Int} (h : ikl p = ikl q) : p = q := by injection h

/-- Block b is a map that holds just the numbers ps. -/
def SetI (w : World) (b : Nat) (ps : List Int) : Prop := w.ownsMap (H := Unit) Try.prog 3 (plainElem Try.prog 4) b ps.length (setOf (.lit (.bool true)) (ps.map ikl)) ∧ ∀ p ∈ ps, In1 p

theorem atKeyI_fold (q : Int) (hq : In1 q) : ∀ (ps : List Int) (m : DataW Unit), IsMap m → (∀ p ∈ ps, In1 p) →
    ((ps.map ikl).foldl (fun m x => m.put x (.lit (.bool true))) m).atKey (ikl q) (.lit (.bool false)) = if (ps.any fun p => decide (p = q)) = true then .lit (.bool true) else m.atKey (ikl q) (.lit (.bool false))
  | [], m, _, _ => by simp
  | p :: t, m, hm, h => by
    have hp := h p (by simp)
    rw [List.map_cons, List.foldl_cons, atKeyI_fold q hq t _ (hm.put _ _) (fun r hr => h r (by simp [hr])), List.any_cons]
    by_cases e : p = q
    · subst e
      rw [atKey_put_same hm (lawInt.key (keyOf1 p hp))]
      simp
    · rw [atKey_put_other (fun h => e (ikl_inj h.symm))]
      simp [e]
theorem atKeyI_setOf (ps : List Int) (hps : ∀ p ∈ ps, In1 p) (q : Int) (hq : In1 q) : (setOf (H := Unit) (.lit (.bool true)) (ps.map ikl)).atKey (ikl q) (.lit (.bool false)) = .lit (.bool (ps.any fun p => decide (p = q))) := by
  unfold setOf
  rw [atKeyI_fold q hq ps _ isMap_empty hps]
  cases ps.any fun p => decide (p = q) <;> rfl

theorem SetI.lookup {w : World} {b : Nat} {ps : List Int} (h : SetI w b ps) (q : Int) (hq : In1 q) : (Instr.lookup 41 (.map (some b)) (.int .i64 q) false).run Try.prog w = .ok (.bool (ps.any fun p => decide (p = q))) w := by
  obtain ⟨v, pl, hrun, hv⟩ := h.1.lookup lawInt Try.underlying41 (zeroBool w) (plainElem_bool Try.underlying4 false) (keyOf1 q hq)
  rw [atKeyI_setOf ps h.2 q hq] at hv
  rw [plainElem_bool_inv hv] at hrun
  exact hrun

theorem SetI.below {w w' : World} {B b : Nat} {ps : List Int} (h : SetI w b ps) (hb : Below B w w') (hlt : b < B) : SetI w' b ps := by
  refine ⟨?_, h.2⟩
  obtain ⟨es, clock, hh, r⟩ := h.1
  exact ⟨es, clock, (hb.block b hlt).trans hh, r⟩
theorem SetI.alloc {w : World} {b : Nat} {ps : List Int} (h : SetI w b ps) (o : Obj) : SetI (w.alloc o) b ps := ⟨h.1.alloc o, h.2⟩
theorem SetI.lt {w : World} {b : Nat} {ps : List Int} (h : SetI w b ps) : b < w.heap.size := h.1.lt

/-- A store at the operation. -/
theorem wpList_setIPut {ops : Array Oper} {rest : List Oper} {o : Oper} {a : Act} {Q : Exit → Act → World → Prop} (w : World) (hg : o.guard = none) (m x v : Operand) (hop : o.op = Op.mapUpdate 41 m x v)
    (b : Nat) (ps : List Int) (q : Int) (hm : a.eval m = .map (some b)) (hset : SetI w b ps) (hn : ps.length ≤ 1000) (hx : a.eval x = .int .i64 q) (hv : a.eval v = .bool true) (hq : In1 q)
    (hK : ∀ w', SetI w' b (ps ++ [q]) → w.grownBy w' (some b) → wpList Try.prog ops Q rest (a.put o.dst undef) w') : wpList Try.prog ops Q (o :: rest) a w := by
  refine wpList_mapUpdate_own (H := Unit) w hg m x v 41 hop 3 4 lawInt Try.underlying41 _ b ps.length _ hm hset.1 (by unfold maxLen; omega) _ _ (ikl q) hx hv (keyOf1 q hq) (.lit (.bool true)) [] (plainElem_bool Try.underlying4 true) ?_
  intro w' h1 h2
  refine hK w' ⟨?_, ?_⟩ h2
  · rw [List.map_append, List.map_singleton, setOf_snoc, List.length_append, List.length_singleton]
    exact h1
  · intro p hp
    rcases List.mem_append.1 hp with h | h
    · exact hset.2 p h
    · rw [List.mem_singleton.1 h]; exact hq
theorem setI_made (w : World) : SetI (w.alloc (.map #[] 0)) w.heap.size [] := ⟨World.ownsMap_made w _ _ _, fun p hp => by cases hp⟩

end Go.Proofs.Yteinegcoenlkcac
