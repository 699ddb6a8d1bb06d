/- Several texts in one: A set of pairs of numbers that a call keeps as a map: what a look-up in it gives, and a store into it; What the document's own answer to chapter 1 does: WrongParts, Of, Houses, SameParts, Fits and Do, called at parts and sums that lie in memory. -/
import Derived.Test.YtikmnaegalmfeaaKJ00
import Derived.Maps.OwnSet
import Derived.Maps.OwnOps
import Derived.ProofKit
import Derived.DeepKeys4
import Derived.WalkSmall
namespace Go.Proofs.Ytikmnaegalmfeaa
open Go.RowKit Go.Maps Go.WideMaps

abbrev P2 := Int × Int
theorem laidB : laidOutB Try.prog = true := by kernel_rfl
theorem rowKey : (98 : TypeId) < Try.prog.types.size := of_decide_eq_true (by kernel_rfl)
theorem wideKey : (match Try.prog.underlying 98 with | some (.array _ _) | some (.struct _) => true | _ => false) = true := by kernel_rfl
set_option maxRecDepth 100000 in
theorem lawKey : Keyed Try.prog 98 := Keyed.of_law (deep_law_laid laidB (m := 2) (by omega) rowKey (by kernel_rfl) wideKey)
theorem zeroBool (w : World) : (zeroValue 4).run Try.prog w = .ok (.bool false) w := by kernel_rfl

def pairV (p : P2) : Value := .agg #[.int .i64 p.1, .int .i64 p.2]
def klit (p : P2) : Lit := .string (keyBytes [.int .i64 p.1, .int .i64 p.2])
/-- Both numbers are of Go's int. -/
def In64 (p : P2) : Prop := (Lit.int .i64 p.1).wf = true ∧ (Lit.int .i64 p.2).wf = true

theorem keyType2 : Try.prog.keyType 98 = true := by kernel_rfl
theorem formed2 (p : P2) : (pairV p).formed Try.prog 98 = true := by kernel_rfl
theorem litI (d : Nat) (n : Int) (h : (Lit.int .i64 n).wf = true) : Try.prog.keyLits (d + 1) 3 [.int .i64 n] = some [.int .i64 n] := by
  unfold Program.keyLits
  rw [Try.underlying3]
  simp only
  simp [h]
theorem lits2d (d : Nat) (p : P2) (h : In64 p) : Try.prog.keyLits (d + 1 + 1) 98 [.int .i64 p.1, .int .i64 p.2] = some [.int .i64 p.1, .int .i64 p.2] := by
  have c1 : Try.prog.cellsOf 3 = 1 := by kernel_rfl
  have c2 : Try.prog.cellsOf 98 = 2 := by kernel_rfl
  unfold Program.keyLits
  rw [Try.underlying98]
  simp only
  rw [c1, c2, if_pos (by rfl), show List.range 2 = [0, 1] from rfl]
  simp only [List.mapM_cons, List.mapM_nil, Nat.zero_mul, Nat.one_mul, List.drop_zero, List.take_succ_cons, List.take_zero, List.drop_succ_cons, litI d _ h.1, litI d _ h.2]
  rfl
theorem lits2 (p : P2) (h : In64 p) : Try.prog.keyLits (Try.prog.types.size + 1) 98 (pairV p).cells.toList = some [.int .i64 p.1, .int .i64 p.2] := by
  have e : (Try.prog.types.size + 1) = (Try.prog.types.size - 1) + 1 + 1 := by
    have h1 : (98 : Nat) < Try.prog.types.size := rowKey
    omega
  rw [e]
  exact lits2d _ p h
theorem keyOf2 (p : P2) (h : In64 p) : keyOf Try.prog 98 (pairV p) = some (klit p) := by
  unfold keyOf
  rw [Try.underlying98]
  simp only [keyType2, formed2, Bool.and_self, if_true, lits2 p h, Option.map_some]
  rfl
theorem klit_inj {p q : P2} (hp : In64 p) (hq : In64 q) (h : klit p = klit q) : p = q := by
  have e := lawKey.inj (keyOf2 p hp) (by rw [h]; exact keyOf2 q hq)
  simp [pairV] at e
  exact Prod.ext e.1 e.2

/-- Block b is a map that holds just the pairs ps. -/
def SetAt (w : World) (b : Nat) (ps : List P2) : Prop := w.ownsMap (H := Unit) Try.prog 98 (plainElem Try.prog 4) b ps.length (setOf (.lit (.bool true)) (ps.map klit)) ∧ ∀ p ∈ ps, In64 p

theorem atKey_fold (q : P2) (hq : In64 q) : ∀ (ps : List P2) (m : DataW Unit), IsMap m → (∀ p ∈ ps, In64 p) →
    ((ps.map klit).foldl (fun m x => m.put x (.lit (.bool true))) m).atKey (klit q) (.lit (.bool false)) = if (ps.any fun p => decide (p = q)) = true then .lit (.bool true) else m.atKey (klit q) (.lit (.bool false))
  | [], m, _, _ => by simp
  | p :: t, m, hm, h => by
    have hp := h p (by simp)
    rw [List.map_cons, List.foldl_cons, atKey_fold q hq t _ (hm.put _ _) (fun r hr => h r (by simp [hr])), List.any_cons]
    by_cases e : p = q
    · subst e
      rw [atKey_put_same hm (lawKey.key (keyOf2 p hp))]
      simp
    · rw [atKey_put_other (fun h => e (klit_inj hp hq h.symm))]
      simp [e]
theorem atKey_setOf (ps : List P2) (hps : ∀ p ∈ ps, In64 p) (q : P2) (hq : In64 q) : (setOf (H := Unit) (.lit (.bool true)) (ps.map klit)).atKey (klit q) (.lit (.bool false)) = .lit (.bool (ps.any fun p => decide (p = q))) := by
  unfold setOf
  rw [atKey_fold q hq ps _ isMap_empty hps]
  cases ps.any fun p => decide (p = q) <;> rfl

set_option maxRecDepth 100000 in
theorem plainElem_bool_inv {H : Type} {v : Value} {x : Bool} {ps : List MemPlace} (h : plainElem (H := H) Try.prog 4 v = some (.lit (.bool x), ps)) : v = .bool x := by
  unfold plainElem at h
  rw [Try.underlying4] at h
  cases v <;> simp at h
  rw [h.1]

theorem SetAt.lookup {w : World} {b : Nat} {ps : List P2} (h : SetAt w b ps) (q : P2) (hq : In64 q) : (Instr.lookup 97 (.map (some b)) (pairV q) false).run Try.prog w = .ok (.bool (ps.any fun p => decide (p = q))) w := by
  obtain ⟨v, pl, hrun, hv⟩ := h.1.lookup lawKey Try.underlying97 (zeroBool w) (plainElem_bool Try.underlying4 false) (keyOf2 q hq)
  rw [atKey_setOf ps h.2 q hq] at hv
  rw [plainElem_bool_inv hv] at hrun
  exact hrun

theorem SetAt.below {w w' : World} {B b : Nat} {ps : List P2} (h : SetAt w b ps) (hb : Below B w w') (hlt : b < B) : SetAt w' b ps := by
  refine ⟨?_, h.2⟩
  obtain ⟨es, clock, hh, r⟩ := h.1
  exact ⟨es, clock, (hb.block b hlt).trans hh, r⟩
theorem SetAt.alloc {w : World} {b : Nat} {ps : List P2} (h : SetAt w b ps) (o : Obj) : SetAt (w.alloc o) b ps := ⟨h.1.alloc o, h.2⟩
theorem SetAt.lt {w : World} {b : Nat} {ps : List P2} (h : SetAt w b ps) : b < w.heap.size := h.1.lt

/-- A store at the operation. -/
theorem wpList_setPut {ops : Array Oper} {rest : List Oper} {o : Oper} {a : Act} {Q : Exit → Act → World → Prop} (w : World) (hg : o.guard = none) (m x v : Operand) (hop : o.op = Op.mapUpdate 97 m x v)
    (b : Nat) (ps : List P2) (q : P2) (hm : a.eval m = .map (some b)) (hset : SetAt w b ps) (hn : ps.length ≤ 1000) (hx : a.eval x = pairV q) (hv : a.eval v = .bool true) (hq : In64 q)
    (hK : ∀ w', SetAt w' b (ps ++ [q]) → w.grownBy w' (some b) → wpList Try.prog ops Q rest (a.put o.dst undef) w') : wpList Try.prog ops Q (o :: rest) a w := by
  refine wpList_mapUpdate_own (H := Unit) w hg m x v 97 hop 98 4 lawKey Try.underlying97 _ b ps.length _ hm hset.1 (by unfold maxLen; omega) _ _ (klit q) hx hv (keyOf2 q hq) (.lit (.bool true)) [] (plainElem_bool Try.underlying4 true) ?_
  intro w' h1 h2
  refine hK w' ⟨?_, ?_⟩ h2
  · rw [List.map_append, List.map_singleton, setOf_snoc, List.length_append, List.length_singleton]
    exact h1
  · intro p hp
    rcases List.mem_append.1 hp with h | h
    · exact hset.2 p h
    · rw [List.mem_singleton.1 h]; exact hq
theorem setAt_made (w : World) : SetAt (w.alloc (.map #[] 0)) w.heap.size [] := ⟨World.ownsMap_made w _ _ _, fun p hp => by cases hp⟩

end Go.Proofs.Ytikmnaegalmfeaa

namespace Go.Proofs.Ytikmnaegalmfeaa
open Go.RowKit

def keyP (p : P3) : P2 := (p.1, p.2.1)
theorem any_keyP (l : List P3) (q : P3) : ((l.map keyP).any fun p => decide (p = keyP q)) = hasB q l := by
  induction l with
  | nil => rfl
  | cons p t ih =>
    simp only [List.map_cons, List.any_cons, hasB] at *
    rw [ih]
    congr 1
    simp [keyP, sameB]
theorem wf64 {n : Int} (h1 : -9223372036854775808 ≤ n) (h2 : n ≤ 9223372036854775807) : (Lit.int .i64 n).wf = true := WalkArith.wf_i64 (by omega)

set_option maxRecDepth 20000 in
set_option maxHeartbeats 1000000 in
theorem wrongParts_any (a : Option Addr) (l : List P3) (cap n : Nat) (H : Int) (w : World) (hn : n = l.length) (hm : l.length ≤ 9223372036854775807) (hp : PartsAt w a l) (hH : H ≤ 9223372036854775807) :
    Calls Try.prog 22 #[.slice a n cap, .int .i64 H] w fun e w' => e = .returned (.int .i64 (wrong l H)) ∧ Below w.heap.size w w' := by
  subst hn
  by_cases h0 : l.length = 0
  · have HW : Hid (wrong l H = 5) := by show _ = _; simp only [wrong]; rw [if_pos (Or.inl (by omega))]
    have h0' : ((l.length : Int) == 0) = true := by simp [h0]
    clear hp
    have h0'' : (l.length : Int) = 0 := by omega
    have X : Hid (l.length = 0 ∧ (l.length : Int) = 0) := ⟨h0, h0''⟩
    clear h0 h0''
    go_enter Try.func22, Try.ntmps22
    go_wp2
    go_ret
    exact ⟨ret_int HW.out.symm, Below.refl _ _⟩
  have h0' : ((l.length : Int) == 0) = false := by simp; intro h; exact h0 (by simp [h])
  by_cases h4 : 4 < l.length
  · have HW : Hid (wrong l H = 5) := by show _ = _; simp only [wrong]; rw [if_pos (Or.inr h4)]
    have h4' : 4 < (l.length : Int) := by omega
    clear hp
    go_enter Try.func22, Try.ntmps22
    go_wp2
    go_ret
    exact ⟨ret_int HW.out.symm, Below.refl _ _⟩
  have HW : Hid (wrong l H = wrongFrom H [] l) := by show _ = _; simp only [wrong]; rw [if_neg (by omega)]
  have h4' : ¬ 4 < (l.length : Int) := by omega
  have hmm := @run_makeMap Try.prog
  go_enter Try.func22, Try.ntmps22
  go_wp2
  go_loopw [19] (fun i w' => ∃ k : Nat, k ≤ l.length ∧ i = .int .i64 k ∧ Hid (wrongFrom H [] l = wrongFrom H (l.take k) (l.drop k)) ∧ SetAt w' w.heap.size ((l.take k).map keyP) ∧ w.heap.size + 1 ≤ w'.heap.size ∧ Below w.heap.size w w') (fun i _ => l.length - (intOf i).toNat)
  case atStart => exact ⟨0, Nat.zero_le _, rfl, rfl, setAt_made w, by simp, below1 _ _⟩
  case round =>
    obtain ⟨k, hk, rfl, hn, hset, hsz, hbw⟩ := hrel
    clear hmm
    by_cases hlt : k < l.length
    · rcases hp with rfl | ⟨b', o, rfl, hb', hc⟩
      · simp at hlt
      obtain ⟨d0, d1, d2⟩ := hc k hlt
      have HS := hn.out
      rw [wrong_step hlt] at HS
      have hlk : ((l.take k).map keyP).length ≤ 1000 := by simp; omega
      have hany := any_keyP (l.take k) l[k]
      have hsn : (l.take (k + 1)).map keyP = (l.take k).map keyP ++ [keyP l[k]] := by rw [take_snoc hlt, List.map_append]; rfl
      clear hc hn
      obtain ⟨hcc, hff⟩ := bcell hbw
      by_cases hin : inB l[k] H = true
      · have hi := hin
        simp only [inB, decide_eq_true_eq] at hi
        obtain ⟨i0, i1, i2, i3, i4, i5⟩ := hi
        have h64 : In64 (keyP l[k]) := ⟨wf64 (by simp only [keyP]; omega) (by simp only [keyP]; omega), wf64 (by simp only [keyP]; omega) (by simp only [keyP]; omega)⟩
        have hlook := (hset.alloc (.cells #[.int .i64 l[k].1, .int .i64 l[k].2.1, .int .i64 l[k].2.2] 45)).lookup (keyP l[k]) h64
        rw [hany] at hlook
        simp only [pairV, keyP] at hlook
        rw [if_pos hin] at HS
        cases hh : hasB l[k] (l.take k)
        · rw [hh] at hlook HS
          have HN : Hid (wrongFrom H [] l = wrongFrom H (l.take (k + 1)) (l.drop (k + 1))) := by show _ = _; simpa using HS
          have HSET : Hid (SetAt wr w.heap.size ((l.take k).map keyP) ∧ In64 (keyP l[k]) ∧ (l.take (k + 1)).map keyP = (l.take k).map keyP ++ [keyP l[k]] ∧ ((l.take k).map keyP).length ≤ 1000) := ⟨hset, h64, hsn, hlk⟩
          clear HS hset h64 hsn hlk hany hin hh
          go_wp2_with (at_mapUpdate; refine wpList_setPut _ rfl _ _ _ rfl w.heap.size ((l.take k).map keyP) (keyP l[k]) rfl (HSET.out.1.alloc _) HSET.out.2.2.2 rfl rfl HSET.out.2.1 ?_; intro w1 hset1 hgrow1)
          have hB1 : Below w.heap.size w w1 := (hbw.alloc (by omega) _).grown hgrow1 (by simp; omega) (fun j hj => by cases hj; exact Nat.le_refl _)
          have hs1 : w.heap.size + 1 ≤ w1.heap.size := by have := hgrow1.size; simp at this; omega
          have HS1 : Hid (SetAt w1 w.heap.size ((l.take k).map keyP ++ [keyP l[k]])) := hset1
          clear hset1 hgrow1 hlook d0 d1 d2 hcc hff
          go_wp2
          go_roundw
          case rel => exact ⟨k + 1, by omega, by go_num, HN, by rw [HSET.out.2.2.1]; exact HS1.out, hs1, hB1⟩
          case measure => simp [intOf]; omega
        · rw [hh] at hlook HS
          have HN : Hid (wrongFrom H [] l = 4) := by show _ = _; simpa using HS
          clear HS hset h64 hsn hlk hany hin hh
          go_wp2
          go_ret
          exact ⟨ret_int (by rw [HW.out, HN.out]), hbw.alloc (by omega) _⟩
      · rw [if_neg hin] at HS
        have HN : Hid (wrongFrom H [] l = 3) := HS
        simp only [inB, decide_eq_true_eq] at hin
        have hd : l[k].1 < 0 ∨ H ≤ l[k].1 ∨ l[k].2.1 < 0 ∨ 3 < l[k].2.1 ∨ 1048576 < l[k].2.2 ∨ l[k].2.2 < -1048576 := by omega
        clear hin HS hset hlk hany hsn
        have HD : Hid _ := hd
        clear hd
        go_wp2
        all_goals first
          | (go_ret; exact ⟨ret_int (by rw [HW.out, HN.out]), hbw.alloc (by omega) _⟩)
          | (exfalso; have := HD.out; omega)
    · clear hp hset
      have HE : Hid (wrongFrom H [] l = 0) := by
        have e1 := hn.out
        rw [List.drop_eq_nil_of_le (by omega)] at e1
        exact e1
      clear hn
      go_wp2
      go_ret
      exact ⟨ret_int (by rw [HW.out, HE.out]), hbw⟩

end Go.Proofs.Ytikmnaegalmfeaa
