/- A set of pairs of numbers that a call keeps as a map: what a look-up in it gives, and a store into it. -/
import Derived.Test.YtikmnaegalmfeaaKJ01
import Derived.Maps.OwnSet
import Derived.Maps.OwnOps
import Derived.ProofKit
import Derived.DeepKeys4
namespace Go.Proofs.Ytikmnaegalmfeaa
open Go.RowKit Go.Maps Go.WideMaps

abbrev P2 := Int × Int
theorem laidB : laidOutB Try.prog = true := by kernel_rfl
theorem rowKey : (98 : TypeId) < Try.prog.types.size := of_decide_eq_true (by kernel_rfl)
theorem wideKey : (match Try.prog.underlying 98 with | some (.array _ _) | some (.struct _) => true | _ => false) = true := by kernel_rfl
set_option maxRecDepth 100000 in
theorem lawKey : Keyed Try.prog 98 := Keyed.of_law (deep_law_laid laidB (m := 2) (by omega) rowKey (by kernel_rfl) wideKey)
theorem zeroBool (w : World) : (zeroValue 4).run Try.prog w = .ok (.bool false) w := by kernel_rfl

def pairV (p : P2) : Value := .agg #[.int .i64 p.1, .int .i64 p.2]
def klit (p : P2) : Lit := .string (keyBytes [.int .i64 p.1, .int .i64 p.2])
/-- Both numbers are of Go's int. -/
def In64 (p : P2) : Prop := (Lit.int .i64 p.1).wf = true ∧ (Lit.int .i64 p.2).wf = true

theorem keyType2 : Try.prog.keyType 98 = true := by kernel_rfl
theorem formed2 (p : P2) : (pairV p).formed Try.prog 98 = true := by kernel_rfl
theorem litI (d : Nat) (n : Int) (h : (Lit.int .i64 n).wf = true) : Try.prog.keyLits (d + 1) 3 [.int .i64 n] = some [.int .i64 n] := by
  unfold Program.keyLits
  rw [Try.underlying3]
  simp only
  simp [h]
theorem lits2d (d : Nat) (p : P2) (h : In64 p) : Try.prog.keyLits (d + 1 + 1) 98 [.int .i64 p.1, .int .i64 p.2] = some [.int .i64 p.1, .int .i64 p.2] := by
  have c1 : Try.prog.cellsOf 3 = 1 := by kernel_rfl
  have c2 : Try.prog.cellsOf 98 = 2 := by kernel_rfl
  unfold Program.keyLits
  rw [Try.underlying98]
  simp only
  rw [c1, c2, if_pos (by rfl), show List.range 2 = [0, 1] from rfl]
  simp only [List.mapM_cons, List.mapM_nil, Nat.zero_mul, Nat.one_mul, List.drop_zero, List.take_succ_cons, List.take_zero, List.drop_succ_cons, litI d _ h.1, litI d _ h.2]
  rfl
theorem lits2 (p : P2) (h : In64 p) : Try.prog.keyLits (Try.prog.types.size + 1) 98 (pairV p).cells.toList = some [.int .i64 p.1, .int .i64 p.2] := by
  have e : (Try.prog.types.size + 1) = (Try.prog.types.size - 1) + 1 + 1 := by
    have h1 : (98 : Nat) < Try.prog.types.size := rowKey
    omega
  rw [e]
  exact lits2d _ p h
theorem keyOf2 (p : P2) (h : In64 p) : keyOf Try.prog 98 (pairV p) = some (klit p) := by
  unfold keyOf
  rw [Try.underlying98]
  simp only [keyType2, formed2, Bool.and_self, if_true, lits2 p h, Option.map_some]
  rfl
theorem klit_inj {p q : P2} (hp : In64 p) (hq : In64 q) (h : klit p = klit q) : p = q := by
  have e := lawKey.inj (keyOf2 p hp) (by rw [h]; exact keyOf2 q hq)
  simp [pairV] at e
  exact Prod.ext e.1 e.2

/-- Block b is a map that holds just the pairs ps. -/
def SetAt (w : World) (b : Nat) (ps : List P2) : Prop := w.ownsMap (H := Unit) Try.prog 98 (plainElem Try.prog 4) b ps.length (setOf (.lit (.bool true)) (ps.map klit)) ∧ ∀ p ∈ ps, In64 p

theorem atKey_fold (q : P2) (hq : In64 q) : ∀ (ps : List P2) (m : DataW Unit), IsMap m → (∀ p ∈ ps, In64 p) →
    ((ps.map klit).foldl (fun m x => m.put x (.lit (.bool true))) m).atKey (klit q) (.lit (.bool false)) = if (ps.any fun p => decide (p = q)) = true then .lit (.bool true) else m.atKey (klit q) (.lit (.bool false))
  | [], m, _, _ => by simp
  | p :: t, m, hm, h => by
    have hp := h p (by simp)
    rw [List.map_cons, List.foldl_cons, atKey_fold q hq t _ (hm.put _ _) (fun r hr => h r (by simp [hr])), List.any_cons]
    by_cases e : p = q
    · subst e
      rw [atKey_put_same hm (lawKey.key (keyOf2 p hp))]
      simp
    · rw [atKey_put_other (fun h => e (klit_inj hp hq h.symm))]
      simp [e]
theorem atKey_setOf (ps : List P2) (hps : ∀ p ∈ ps, In64 p) (q : P2) (hq : In64 q) : (setOf (H := Unit) (.lit (.bool true)) (ps.map klit)).atKey (klit q) (.lit (.bool false)) = .lit (.bool (ps.any fun p => decide (p = q))) := by
  unfold setOf
  rw [atKey_fold q hq ps _ isMap_empty hps]
  cases ps.any fun p => decide (p = q) <;> rfl

set_option maxRecDepth 100000 in
theorem plainElem_bool_inv {H : Type} {v : Value} {x : Bool} {ps : List MemPlace} (h : plainElem (H := H) Try.prog 4 v = some (.lit (.bool x), ps)) : v = .bool x := by
  unfold plainElem at h
  rw [Try.underlying4] at h
  cases v <;> simp at h
  rw [h.1]

theorem SetAt.lookup {w : World} {b : Nat} {ps : List P2} (h : SetAt w b ps) (q : P2) (hq : In64 q) : (Instr.lookup 97 (.map (some b)) (pairV q) false).run Try.prog w = .ok (.bool (ps.any fun p => decide (p = q))) w := by
  obtain ⟨v, pl, hrun, hv⟩ := h.1.lookup lawKey Try.underlying97 (zeroBool w) (plainElem_bool Try.underlying4 false) (keyOf2 q hq)
  rw [atKey_setOf ps h.2 q hq] at hv
  rw [plainElem_bool_inv hv] at hrun
  exact hrun

theorem SetAt.below {w w' : World} {B b : Nat} {ps : List P2} (h : SetAt w b ps) (hb : Below B w w') (hlt : b < B) : SetAt w' b ps := by
  refine ⟨?_, h.2⟩
  obtain ⟨es, clock, hh, r⟩ := h.1
  exact ⟨es, clock, (hb.block b hlt).trans hh, r⟩
theorem SetAt.alloc {w : World} {b : Nat} {ps : List P2} (h : SetAt w b ps) (o : Obj) : SetAt (w.alloc o) b ps := ⟨h.1.alloc o, h.2⟩
theorem SetAt.lt {w : World} {b : Nat} {ps : List P2} (h : SetAt w b ps) : b < w.heap.size := h.1.lt

/-- A store at the operation. -/
theorem wpList_setPut {ops : Array Oper} {rest : List Oper} {o : Oper} {a : Act} {Q : Exit → Act → World → Prop} (w : World) (hg : o.guard = none) (m x v : Operand) (hop : o.op = Op.mapUpdate 97 m x v)
    (b : Nat) (ps : List P2) (q : P2) (hm : a.eval m = .map (some b)) (hset : SetAt w b ps) (hn : ps.length ≤ 1000) (hx : a.eval x = pairV q) (hv : a.eval v = .bool true) (hq : In64 q)
    (hK : ∀ w', SetAt w' b (ps ++ [q]) → w.grownBy w' (some b) → wpList Try.prog ops Q rest (a.put o.dst undef) w') : wpList Try.prog ops Q (o :: rest) a w := by
  refine wpList_mapUpdate_own (H := Unit) w hg m x v 97 hop 98 4 lawKey Try.underlying97 _ b ps.length _ hm hset.1 (by unfold maxLen; omega) _ _ (klit q) hx hv (keyOf2 q hq) (.lit (.bool true)) [] (plainElem_bool Try.underlying4 true) ?_
  intro w' h1 h2
  refine hK w' ⟨?_, ?_⟩ h2
  · rw [List.map_append, List.map_singleton, setOf_snoc, List.length_append, List.length_singleton]
    exact h1
  · intro p hp
    rcases List.mem_append.1 hp with h | h
    · exact hset.2 p h
    · rw [List.mem_singleton.1 h]; exact hq
theorem setAt_made (w : World) : SetAt (w.alloc (.map #[] 0)) w.heap.size [] := ⟨World.ownsMap_made w _ _ _, fun p hp => by cases hp⟩

end Go.Proofs.Ytikmnaegalmfeaa
