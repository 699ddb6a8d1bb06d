import Derived.Test.YtpcnlifmkhagkaaGreatKFJ00
import Derived.Maps.OwnSet
import Derived.Maps.OwnOps
import Derived.ProofKit
import Derived.DeepKeys4
set_option maxRecDepth 20000
set_option maxHeartbeats 20000000
namespace Go.Proofs.YtpcnlifmkhagkaaGreat
open Go.RowKit
open Go.Value renaming slice → G, int → E
open Go.IntKind renaming i64 → J
open _root_.Option renaming none → U
open Go.Obj renaming cells → T
open Go.RowKit renaming Hid → Q, Below → Z
open Go.RowKit Go.Maps Go.WideMaps
abbrev P2 := Int × Int
theorem laidB : laidOutB Tryz.prog = true := by kernel_rfl
theorem rowKey : (97 : TypeId) < Tryz.prog.types.size := of_decide_eq_true (by kernel_rfl)
theorem wideKey : (match Tryz.prog.underlying 97 with | some (.array _ _) | some (.struct _) => true | _ => false) = true := by kernel_rfl
theorem zid : Keyed Tryz.prog 97 := Keyed.of_law (deep_law_laid laidB (m := 2) (by omega) rowKey (by kernel_rfl) wideKey)
theorem zmy (w : World) : (zeroValue 4).run Tryz.prog w = .ok (.bool false) w := by kernel_rfl
def zf7 (p : P2) : Value := .agg #[.int J p.1, .int J p.2]
def klit (p : P2) : Lit := .string (keyBytes [.int J p.1, .int J p.2])
def zes (p : P2) : Prop := (Lit.int J p.1).wf = true ∧ (Lit.int J p.2).wf = true
theorem keyType2 : Tryz.prog.keyType 97 = true := by kernel_rfl
theorem formed2 (p : P2) : (zf7 p).formed Tryz.prog 97 = true := by kernel_rfl
theorem litI (d : Nat) (n : Int) (h : (Lit.int J n).wf = true) : Tryz.prog.keyLits (d + 1) 3 [.int J n] = some [.int J n] := by
 unfold Program.keyLits
 rw [Tryz.underlying3];simp only
 simp [h]
theorem lits2d (d : Nat) (p : P2) (h : zes p) : Tryz.prog.keyLits (d + 1 + 1) 97 [.int J p.1, .int J p.2] = some [.int J p.1, .int J p.2] := by
 have c1 : Tryz.prog.cellsOf 3 = 1 := by kernel_rfl
 have c2 : Tryz.prog.cellsOf 97 = 2 := by kernel_rfl
 unfold Program.keyLits
 rw [Tryz.underlying97];simp only
 rw [c1, c2, if_pos (by rfl), show List.range 2 = [0, 1] from rfl];simp only [List.mapM_cons, List.mapM_nil, Nat.zero_mul, Nat.one_mul, List.drop_zero, List.take_succ_cons, List.take_zero, List.drop_succ_cons, litI d _ h.1, litI d _ h.2]
 rfl
theorem lits2 (p : P2) (h : zes p) : Tryz.prog.keyLits (Tryz.prog.types.size + 1) 97 (zf7 p).cells.toList = some [.int J p.1, .int J p.2] := by
 have e : (Tryz.prog.types.size + 1) = (Tryz.prog.types.size - 1) + 1 + 1 := by
  have h1 : (97 : Nat) < Tryz.prog.types.size := rowKey;omega
 rw [e];exact lits2d _ p h
theorem zg7 (p : P2) (h : zes p) : keyOf Tryz.prog 97 (zf7 p) = some (klit p) := by
 unfold keyOf
 rw [Tryz.underlying97];simp only [keyType2, formed2, Bool.and_self, if_true, lits2 p h, Option.map_some]
 rfl
theorem klit_inj {p q : P2} (hp : zes p) (hq : zes q) (h : klit p = klit q) : p = q := by
 have e := zid.inj (zg7 p hp) (by rw [h]; exact zg7 q hq);simp [zf7] at e
 exact Prod.ext e.1 e.2
def zeb (w : World) (b : Nat) (ps : List P2) : Prop := w.ownsMap (H := Unit) Tryz.prog 97 (plainElem Tryz.prog 4) b ps.length (setOf (.lit (.bool true)) (ps.map klit)) ∧ ∀ p ∈ ps, zes p
theorem zmv (q : P2) (hq : zes q) : ∀ (ps : List P2) (m : DataW Unit), IsMap m → (∀ p ∈ ps, zes p) →
  ((ps.map klit).foldl (fun m x => m.put x (.lit (.bool true))) m).atKey (klit q) (.lit (.bool false)) = if (ps.any fun p => decide (p = q)) = true then .lit (.bool true) else m.atKey (klit q) (.lit (.bool false))
 | [], m, _, _ => by simp
 | p :: t, m, hm, h => by
  have hp := h p (by simp);rw [List.map_cons, List.foldl_cons, zmv q hq t _ (hm.put _ _) (fun jj hr => h jj (by simp [hr])), List.any_cons];by_cases e : p = q
  ·subst e
   rw [atKey_put_same hm (zid.key (zg7 p hp))];simp
  ·rw [atKey_put_other (fun h => e (klit_inj hp hq h.symm))]
   simp [e]
theorem zpq (ps : List P2) (hps : ∀ p ∈ ps, zes p) (q : P2) (hq : zes q) : (setOf (H := Unit) (.lit (.bool true)) (ps.map klit)).atKey (klit q) (.lit (.bool false)) = .lit (.bool (ps.any fun p => decide (p = q))) := by
 unfold setOf
 rw [zmv q hq ps _ isMap_empty hps];cases ps.any fun p => decide (p = q) <;> rfl
theorem zk2 {H : Type} {v : Value} {x : Bool} {ps : List MemPlace} (h : plainElem (H := H) Tryz.prog 4 v = some (.lit (.bool x), ps)) : v = .bool x := by
 unfold plainElem at h
 rw [Tryz.underlying4] at h;cases v <;> simp at h
 rw [h.1]
theorem zeb.lookup {w : World} {b : Nat} {ps : List P2} (h : zeb w b ps) (q : P2) (hq : zes q) : (Instr.lookup 96 (.map (some b)) (zf7 q) false).run Tryz.prog w = .ok (.bool (ps.any fun p => decide (p = q))) w := by
 obtain ⟨v, pl, hrun, hv⟩ := h.1.lookup zid Tryz.underlying96 (zmy w) (plainElem_bool Tryz.underlying4 false) (zg7 q hq);rw [zpq ps h.2 q hq] at hv;rw [zk2 hv] at hrun;exact hrun
theorem zeb.below {w w' : World} {B b : Nat} {ps : List P2} (h : zeb w b ps) (hb : Z B w w') (hlt : b < B) : zeb w' b ps := by
 refine ⟨?_, h.2⟩;obtain ⟨es, clock, hh, jj⟩ := h.1;exact ⟨es, clock, (hb.block b hlt).trans hh, jj⟩
theorem zeb.alloc {w : World} {b : Nat} {ps : List P2} (h : zeb w b ps) (o : Obj) : zeb (w.alloc o) b ps := ⟨h.1.alloc o, h.2⟩
theorem zeb.lt {w : World} {b : Nat} {ps : List P2} (h : zeb w b ps) : b < w.heap.size := h.1.lt
theorem zn1 {ops : Array Oper} {rest : List Oper} {o : Oper} {a : Act} {zZ : Exit → Act → World → Prop} (w : World) (hg : o.guard = U) (m x v : Operand) (hop : o.op = Op.mapUpdate 96 m x v)
  (b : Nat) (ps : List P2) (q : P2) (hm : a.eval m = .map (some b)) (hset : zeb w b ps) (hn : ps.length ≤ 1000) (hx : a.eval x = zf7 q) (hv : a.eval v = .bool true) (hq : zes q)
  (hK : ∀ w', zeb w' b (ps ++ [q]) → w.grownBy w' (some b) → wpList Tryz.prog ops zZ rest (a.put o.dst undef) w') : wpList Tryz.prog ops zZ (o :: rest) a w := by
 refine wpList_mapUpdate_own (H := Unit) w hg m x v 96 hop 97 4 zid Tryz.underlying96 _ b ps.length _ hm hset.1 (by unfold maxLen; omega) _ _ (klit q) hx hv (zg7 q hq) (.lit (.bool true)) [] (plainElem_bool Tryz.underlying4 true) ?_;intro w' h1 h2;refine hK w' ⟨?_, ?_⟩ h2
 ·rw [List.map_append, List.map_singleton, setOf_snoc, List.length_append, List.length_singleton]
  exact h1
 ·intro p hp
  rcases List.mem_append.1 hp with h | h
  ·exact hset.2 p h
  ·rw [List.mem_singleton.1 h]; exact hq
theorem znd (w : World) : zeb (w.alloc (.map #[] 0)) w.heap.size [] := ⟨World.ownsMap_made w _ _ _, fun p hp => by cases hp⟩
def zdm (p : P3) : P2 := (p.1, p.2.1)
theorem any_keyP (l : List P3) (q : P3) : ((l.map zdm).any fun p => decide (p = zdm q)) = hasB q l := by
 induction l with
 | nil => rfl
 | cons p t ih =>
  simp only [List.map_cons, List.any_cons, hasB] at *
  rw [ih];congr 1
  simp [zdm, ze3]
theorem wf64 {n : Int} (h1 : -9223372036854775808 ≤ n) (h2 : n ≤ 9223372036854775807) : (Lit.int J n).wf = true := WalkArith.wf_i64 (by omega)
theorem ziz (a : Option Addr) (l : List P3) (cap n : Nat) (H : Int) (w : World) (hn : n = l.length) (hm : l.length ≤ 9223372036854775807) (hp : zai w a l) (hH : H ≤ 9223372036854775807) :
  Calls Tryz.prog 20 #[G a n cap, E J H] w fun e w' => e = .returned (E J (za0 l H)) ∧ Z w.heap.size w w' := by
 subst hn;by_cases h0 : l.length = 0
 ·have HW : Q (za0 l H = 5) := by show _ = _; simp only [za0]; rw [if_pos (Or.inl (by omega))]
  have h0' : ((l.length : Int) == 0) = true := by simp [h0]
  clear hp;have h0'' : (l.length : Int) = 0 := by omega
  have X := zB h0 h0'';clear h0 h0'';go_enter Tryz.func20, Tryz.ntmps20
  go_wp2;go_ret;exact ⟨zca HW.out.symm, Below.refl _ _⟩
 have h0' : ((l.length : Int) == 0) = false := by simp; intro h; exact h0 (by simp [h])
 by_cases h4 : 4 < l.length
 ·have HW : Q (za0 l H = 5) := by show _ = _; simp only [za0]; rw [if_pos (Or.inr h4)]
  have h4' : 4 < (l.length : Int) := by omega
  clear hp;go_enter Tryz.func20, Tryz.ntmps20
  go_wp2;go_ret;exact ⟨zca HW.out.symm, Below.refl _ _⟩
 have HW : Q (za0 l H = zdq H [] l) := by show _ = _; simp only [za0]; rw [if_neg (by omega)]
 have h4' : ¬ 4 < (l.length : Int) := by omega
 have hmm := @run_makeMap Tryz.prog;go_enter Tryz.func20, Tryz.ntmps20
 go_wp2;go_loopw [19] (fun i w' => ∃ k : Nat, k ≤ l.length ∧ i = E J k ∧ Q (zdq H [] l = zdq H (l.take k) (l.drop k)) ∧ zeb w' w.heap.size ((l.take k).map zdm) ∧ w.heap.size + 1 ≤ w'.heap.size ∧ Z w.heap.size w w') (fun i _ => l.length - (intOf i).toNat)
 case atStart => exact ⟨0, Nat.zero_le _, rfl, rfl, znd w, by simp, zg _ _⟩
 case round =>
  obtain ⟨k, hk, rfl, hn, hset, hsz, hbw⟩ := hrel;clear hmm;by_cases hlt : k < l.length
  ·rcases hp with rfl | ⟨b', o, rfl, hb', hc⟩
   ·simp at hlt
   obtain ⟨d0, d1, d2⟩ := hc k hlt;have HS := hn.out;rw [znm hlt] at HS;have hlk : ((l.take k).map zdm).length ≤ 1000 := by simp; omega
   have hany := any_keyP (l.take k) l[k];have hsn : (l.take (k + 1)).map zdm = (l.take k).map zdm ++ [zdm l[k]] := by rw [zax hlt, List.map_append]; rfl
   clear hc hn;obtain ⟨hcc, hff⟩ := zc1 hbw;by_cases hin : inB l[k] H = true
   ·have hi := hin
    simp only [inB, decide_eq_true_eq] at hi
    obtain ⟨i0, i1, i2, i3, i4, i5⟩ := hi;have h64 : zes (zdm l[k]) := ⟨wf64 (by simp only [zdm]; omega) (by simp only [zdm]; omega), wf64 (by simp only [zdm]; omega) (by simp only [zdm]; omega)⟩;have hlook := (hset.alloc (T #[E J l[k].1, E J l[k].2.1, E J l[k].2.2] 90)).lookup (zdm l[k]) h64;rw [hany] at hlook;simp only [zf7, zdm] at hlook
    rw [if_pos hin] at HS;cases hh : hasB l[k] (l.take k)
    ·rw [hh] at hlook HS
     have HN : Q (zdq H [] l = zdq H (l.take (k + 1)) (l.drop (k + 1))) := by show _ = _; simpa using HS
     have HSET := zD hset h64 hsn hlk;clear HS hset h64 hsn hlk hany hin hh;go_wp2_with (at_mapUpdate; refine zn1 _ rfl _ _ _ rfl w.heap.size ((l.take k).map zdm) (zdm l[k]) rfl (HSET.out.1.alloc _) HSET.out.2.2.2 rfl rfl HSET.out.2.1 ?_; intro w1 hset1 hgrow1)
     have hB1 := (hbw.alloc (by omega) _).grown hgrow1 (by simp; omega) (fun j hj => by cases hj; exact Nat.le_refl _);have hs1 : w.heap.size + 1 ≤ w1.heap.size := by have := hgrow1.size; simp at this; omega
     have HS1 := zA hset1;clear hset1 hgrow1 hlook d0 d1 d2 hcc hff;go_wp2;go_roundw
     case rel => exact ⟨k + 1, by omega, by go_num, HN, by rw [HSET.out.2.2.1]; exact HS1.out, hs1, hB1⟩
     case measure => simp [intOf]; omega
    ·rw [hh] at hlook HS
     have HN : Q (zdq H [] l = 4) := by show _ = _; simpa using HS
     clear HS hset h64 hsn hlk hany hin hh;go_wp2;go_ret;exact ⟨zca (by rw [HW.out, HN.out]), hbw.alloc (by omega) _⟩
   ·rw [if_neg hin] at HS
    have HN := zA HS;simp only [inB, decide_eq_true_eq] at hin
    have hd : l[k].1 < 0 ∨ H ≤ l[k].1 ∨ l[k].2.1 < 0 ∨ 3 < l[k].2.1 ∨ 1048576 < l[k].2.2 ∨ l[k].2.2 < -1048576 := by omega
    clear hin HS hset hlk hany hsn;have HD : Q _ := hd;clear hd;go_wp2
    all_goals first
     | (go_ret; exact ⟨zca (by rw [HW.out, HN.out]), hbw.alloc (by omega) _⟩)
     | (exfalso; have := HD.out; omega)
  ·clear hp hset
   have HE : Q (zdq H [] l = 0) := by
    have e1 := hn.out;rw [List.drop_eq_nil_of_le (by omega)] at e1;exact e1
   clear hn;go_wp2;go_ret;exact ⟨zca (by rw [HW.out, HE.out]), hbw⟩
end Go.Proofs.YtpcnlifmkhagkaaGreat
