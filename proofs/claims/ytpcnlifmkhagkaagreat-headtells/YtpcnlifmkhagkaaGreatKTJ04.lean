import Derived.Test.YtpcnlifmkhagkaaGreatKTRefH
import Derived.Maps.OwnSet
import Derived.Maps.OwnOps
import Derived.ProofKit
import Derived.DeepKeys4
import Derived.Laws.EntriesVeiled
set_option maxRecDepth 20000
set_option maxHeartbeats 20000000
namespace Go.Proofs.YtpcnlifmkhagkaaGreat
open Go.RowKit
open Go.Value renaming slice → G, int → E
open Go.IntKind renaming i64 → J
open _root_.Option renaming none → U
open Go.Obj renaming cells → T
open Go.RowKit renaming Hid → Q, Below → Z
open _root_.List renaming mem_singleton → kaa, mem_append → kab, any_eq_false → kac, any_eq_true → kad, take_of_length_le → kae
attribute [local go_sem ↓] Go.wp_at_zero Go.wp_at_succ
open Go.RowKit Go.Maps Go.WideMaps
abbrev P2 := Int × Int
theorem laidB : laidOutB Tryz.prog = true := by kernel_rfl
theorem rowKey : (97 : TypeId) < Tryz.prog.types.size := of_decide_eq_true (by kernel_rfl)
theorem wideKey : (match Tryz.prog.underlying 97 with | some (.array _ _) | some (.struct _) => true | _ => false) = true := by kernel_rfl
theorem zh6 : Keyed Tryz.prog 97 := Keyed.of_law (deep_law_laid laidB (m := 2) (by omega) rowKey (by kernel_rfl) wideKey)
theorem zkw (w : World) : (zeroValue 4).run Tryz.prog w = .ok (.bool false) w := by kernel_rfl
def zfz (p : P2) : Value := .agg #[.int J p.1, .int J p.2]
def klit (p : P2) : Lit := .string (keyBytes [.int J p.1, .int J p.2])
def zen (p : P2) : Prop := (Lit.int J p.1).wf = true ∧ (Lit.int J p.2).wf = true
theorem keyType2 : Tryz.prog.keyType 97 = true := by kernel_rfl
theorem formed2 (p : P2) : (zfz p).formed Tryz.prog 97 = true := by kernel_rfl
theorem litI (d : Nat) (n : Int) (h : (Lit.int J n).wf = true) : Tryz.prog.keyLits (d + 1) 3 [.int J n] = some [.int J n] := by
 unfold Program.keyLits
 rw [Tryz.underlying3];simp only
 simp [h]
theorem lits2d (d : Nat) (p : P2) (h : zen p) : Tryz.prog.keyLits (d + 1 + 1) 97 [.int J p.1, .int J p.2] = some [.int J p.1, .int J p.2] := by
 have c1 : Tryz.prog.cellsOf 3 = 1 := by kernel_rfl
 have c2 : Tryz.prog.cellsOf 97 = 2 := by kernel_rfl
 unfold Program.keyLits
 rw [Tryz.underlying97];simp only
 rw [c1, c2, if_pos (by rfl), show List.range 2 = [0, 1] from rfl];simp only [List.mapM_cons, List.mapM_nil, Nat.zero_mul, Nat.one_mul, List.drop_zero, List.take_succ_cons, List.take_zero, List.drop_succ_cons, litI d _ h.1, litI d _ h.2]
 rfl
theorem lits2 (p : P2) (h : zen p) : Tryz.prog.keyLits (Tryz.prog.types.size + 1) 97 (zfz p).cells.toList = some [.int J p.1, .int J p.2] := by
 have e : (Tryz.prog.types.size + 1) = (Tryz.prog.types.size - 1) + 1 + 1 := by
  have h1 : (97 : Nat) < Tryz.prog.types.size := rowKey;omega
 rw [e];exact lits2d _ p h
theorem zg2 (p : P2) (h : zen p) : keyOf Tryz.prog 97 (zfz p) = some (klit p) := by
 unfold keyOf
 rw [Tryz.underlying97];simp only [keyType2, formed2, Bool.and_self, if_true, lits2 p h, Option.map_some]
 rfl
theorem klit_inj {p q : P2} (hp : zen p) (hq : zen q) (h : klit p = klit q) : p = q := by
 have e := zh6.inj (zg2 p hp) (by rw [h]; exact zg2 q hq);simp [zfz] at e
 exact Prod.ext e.1 e.2
def zd3 (w : World) (b : Nat) (ps : List P2) : Prop := w.ownsMap (H := Unit) Tryz.prog 97 (plainElem Tryz.prog 4) b ps.length (setOf (.lit (.bool true)) (ps.map klit)) ∧ ∀ p ∈ ps, zen p
theorem zmg (q : P2) (hq : zen q) : ∀ (ps : List P2) (m : DataW Unit), IsMap m → (∀ p ∈ ps, zen p) →
  ((ps.map klit).foldl (fun m x => m.put x (.lit (.bool true))) m).atKey (klit q) (.lit (.bool false)) = if (ps.any fun p => decide (p = q)) = true then .lit (.bool true) else m.atKey (klit q) (.lit (.bool false))
 | [], m, _, _ => by simp
 | p :: t, m, hm, h => by
  have hp := h p (by simp);rw [List.map_cons, List.foldl_cons, zmg q hq t _ (hm.put _ _) (fun jj hr => h jj (by simp [hr])), List.any_cons];by_cases e : p = q
  ·subst e
   rw [atKey_put_same hm (zh6.key (zg2 p hp))];simp
  ·rw [atKey_put_other (fun h => e (klit_inj hp hq h.symm))]
   simp [e]
theorem zqa (ps : List P2) (hps : ∀ p ∈ ps, zen p) (q : P2) (hq : zen q) : (setOf (H := Unit) (.lit (.bool true)) (ps.map klit)).atKey (klit q) (.lit (.bool false)) = .lit (.bool (ps.any fun p => decide (p = q))) := by
 unfold setOf
 rw [zmg q hq ps _ isMap_empty hps];cases ps.any fun p => decide (p = q) <;> rfl
theorem zlf {H : Type} {v : Value} {x : Bool} {ps : List MemPlace} (h : plainElem (H := H) Tryz.prog 4 v = some (.lit (.bool x), ps)) : v = .bool x := by
 unfold plainElem at h
 rw [Tryz.underlying4] at h;cases v <;> simp at h
 rw [h.1]
theorem zd3.lookup {w : World} {b : Nat} {ps : List P2} (h : zd3 w b ps) (q : P2) (hq : zen q) : (Instr.lookup 96 (.map (some b)) (zfz q) false).run Tryz.prog w = .ok (.bool (ps.any fun p => decide (p = q))) w := by
 obtain ⟨v, pl, hrun, hv⟩ := h.1.lookup zh6 Tryz.underlying96 (zkw w) (plainElem_bool Tryz.underlying4 false) (zg2 q hq);rw [zqa ps h.2 q hq] at hv;rw [zlf hv] at hrun;exact hrun
theorem zd3.below {w w' : World} {B b : Nat} {ps : List P2} (h : zd3 w b ps) (hb : Z B w w') (hlt : b < B) : zd3 w' b ps := by
 refine ⟨?_, h.2⟩;obtain ⟨es, clock, hh, jj⟩ := h.1;exact ⟨es, clock, (hb.block b hlt).trans hh, jj⟩
theorem zd3.alloc {w : World} {b : Nat} {ps : List P2} (h : zd3 w b ps) (o : Obj) : zd3 (w.alloc o) b ps := ⟨h.1.alloc o, h.2⟩
theorem zd3.lt {w : World} {b : Nat} {ps : List P2} (h : zd3 w b ps) : b < w.heap.size := h.1.lt
theorem zo8 {ops : Array Oper} {rest : List Oper} {o : Oper} {a : Act} {zZ : Exit → Act → World → Prop} (w : World) (hg : o.guard = U) (m x v : Operand) (hop : o.op = Op.mapUpdate 96 m x v)
  (b : Nat) (ps : List P2) (q : P2) (hm : a.eval m = .map (some b)) (hset : zd3 w b ps) (hn : ps.length ≤ 1000) (hx : a.eval x = zfz q) (hv : a.eval v = .bool true) (hq : zen q)
  (hK : ∀ w', zd3 w' b (ps ++ [q]) → w.grownBy w' (some b) → wpList Tryz.prog ops zZ rest (a.put o.dst undef) w') : wpList Tryz.prog ops zZ (o :: rest) a w := by
 refine wpList_mapUpdate_own (H := Unit) w hg m x v 96 hop 97 4 zh6 Tryz.underlying96 _ b ps.length _ hm hset.1 (by unfold maxLen; omega) _ _ (klit q) hx hv (zg2 q hq) (.lit (.bool true)) [] (plainElem_bool Tryz.underlying4 true) ?_;intro w' h1 h2;refine hK w' ⟨?_, ?_⟩ h2
 ·rw [List.map_append, List.map_singleton, setOf_snoc, List.length_append, List.length_singleton]
  exact h1
 ·intro p hp
  rcases kab.1 hp with h | h
  ·exact hset.2 p h
  ·rw [kaa.1 h]; exact hq
theorem znv (w : World) : zd3 (w.alloc (.map #[] 0)) w.heap.size [] := ⟨World.ownsMap_made w _ _ _, fun p hp => by cases hp⟩
def zdf (p : P3) : P2 := (p.1, p.2.1)
theorem any_keyP (l : List P3) (q : P3) : ((l.map zdf).any fun p => decide (p = zdf q)) = hasB q l := by
 induction l with
 | nil => rfl
 | cons p t ih =>
  simp only [List.map_cons, List.any_cons, hasB] at *
  rw [ih];congr 1
  simp [zdf, zex]
theorem wf64 {n : Int} (h1 : -9223372036854775808 ≤ n) (h2 : n ≤ 9223372036854775807) : (Lit.int J n).wf = true := WalkArith.wf_i64 (by omega)
theorem zi6 (a : Option Addr) (l : List P3) (cap n : Nat) (H : Int) (w : World) (hn : n = l.length) (hm : l.length ≤ 9223372036854775807) (hp : zae w a l) (hH : H ≤ 9223372036854775807) :
  Calls Tryz.prog 20 #[G a n cap, E J H] w fun e w' => e = .returned (E J (zax l H)) ∧ Z w.heap.size w w' := by
 subst hn;by_cases h0 : l.length = 0
 ·have HW : Q (zax l H = 5) := by show _ = _; simp only [zax]; rw [if_pos (Or.inl (by omega))]
  have h0' : ((l.length : Int) == 0) = true := by simp [h0]
  clear hp;have h0'' : (l.length : Int) = 0 := by omega
  have X := zB h0 h0'';clear h0 h0'';go_enter Tryz.func20, Tryz.ntmps20
  go_wp2;go_ret;exact ⟨zca HW.out.symm, Below.refl _ _⟩
 have h0' : ((l.length : Int) == 0) = false := by simp; intro h; exact h0 (by simp [h])
 by_cases h4 : 4 < l.length
 ·have HW : Q (zax l H = 5) := by show _ = _; simp only [zax]; rw [if_pos (Or.inr h4)]
  have h4' : 4 < (l.length : Int) := by omega
  clear hp;go_enter Tryz.func20, Tryz.ntmps20
  go_wp2;go_ret;exact ⟨zca HW.out.symm, Below.refl _ _⟩
 have HW : Q (zax l H = zds H [] l) := by show _ = _; simp only [zax]; rw [if_neg (by omega)]
 have h4' : ¬ 4 < (l.length : Int) := by omega
 have hmm := @run_makeMap Tryz.prog;go_enter Tryz.func20, Tryz.ntmps20
 go_wp2;go_loopw [19] (fun i w' => ∃ k : Nat, k ≤ l.length ∧ i = E J k ∧ Q (zds H [] l = zds H (l.take k) (l.drop k)) ∧ zd3 w' w.heap.size ((l.take k).map zdf) ∧ w.heap.size + 1 ≤ w'.heap.size ∧ Z w.heap.size w w') (fun i _ => l.length - (intOf i).toNat)
 case atStart => exact ⟨0, Nat.zero_le _, rfl, rfl, znv w, by simp, zh _ _⟩
 case round =>
  obtain ⟨k, hk, rfl, hn, hset, hsz, hbw⟩ := hrel;clear hmm;by_cases hlt : k < l.length
  ·rcases hp with rfl | ⟨b', o, rfl, hb', hc⟩
   ·simp at hlt
   obtain ⟨d0, d1, d2⟩ := hc k hlt;have HS := hn.out;rw [zn1 hlt] at HS;have hlk : ((l.take k).map zdf).length ≤ 1000 := by simp; omega
   have hany := any_keyP (l.take k) l[k];have hsn : (l.take (k + 1)).map zdf = (l.take k).map zdf ++ [zdf l[k]] := by rw [zav hlt, List.map_append]; rfl
   clear hc hn;obtain ⟨hcc, hff⟩ := zc0 hbw;by_cases hin : inB l[k] H = true
   ·have hi := hin
    simp only [inB, decide_eq_true_eq] at hi
    obtain ⟨i0, i1, i2, i3, i4, i5⟩ := hi;have h64 : zen (zdf l[k]) := ⟨wf64 (by simp only [zdf]; omega) (by simp only [zdf]; omega), wf64 (by simp only [zdf]; omega) (by simp only [zdf]; omega)⟩;have hlook := (hset.alloc (T #[E J l[k].1, E J l[k].2.1, E J l[k].2.2] 90)).lookup (zdf l[k]) h64;rw [hany] at hlook;simp only [zfz, zdf] at hlook
    rw [if_pos hin] at HS;cases hh : hasB l[k] (l.take k)
    ·rw [hh] at hlook HS
     have HN : Q (zds H [] l = zds H (l.take (k + 1)) (l.drop (k + 1))) := by show _ = _; simpa using HS
     have HSET := zD hset h64 hsn hlk;clear HS hset h64 hsn hlk hany hin hh;go_wp2_with (at_mapUpdate; refine zo8 _ rfl _ _ _ rfl w.heap.size ((l.take k).map zdf) (zdf l[k]) rfl (HSET.out.1.alloc _) HSET.out.2.2.2 rfl rfl HSET.out.2.1 ?_; intro w1 hset1 hgrow1)
     have hB1 := (hbw.alloc (by omega) _).grown hgrow1 (by simp; omega) (fun j hj => by cases hj; exact Nat.le_refl _);have hs1 : w.heap.size + 1 ≤ w1.heap.size := by have := hgrow1.size; simp at this; omega
     have HS1 := zA hset1;clear hset1 hgrow1 hlook d0 d1 d2 hcc hff;go_wp2;go_roundw
     case rel => exact ⟨k + 1, by omega, by go_num, HN, by rw [HSET.out.2.2.1]; exact HS1.out, hs1, hB1⟩
     case measure => simp [intOf]; omega
    ·rw [hh] at hlook HS
     have HN : Q (zds H [] l = 4) := by show _ = _; simpa using HS
     clear HS hset h64 hsn hlk hany hin hh;go_wp2;go_ret;exact ⟨zca (by rw [HW.out, HN.out]), hbw.alloc (by omega) _⟩
   ·rw [if_neg hin] at HS
    have HN := zA HS;simp only [inB, decide_eq_true_eq] at hin
    have hd : l[k].1 < 0 ∨ H ≤ l[k].1 ∨ l[k].2.1 < 0 ∨ 3 < l[k].2.1 ∨ 1048576 < l[k].2.2 ∨ l[k].2.2 < -1048576 := by omega
    clear hin HS hset hlk hany hsn;have HD : Q _ := hd;clear hd;go_wp2
    all_goals first
     | (go_ret; exact ⟨zca (by rw [HW.out, HN.out]), hbw.alloc (by omega) _⟩)
     | (exfalso; have := HD.out; omega)
  ·clear hp hset
   have HE : Q (zds H [] l = 0) := by
    have e1 := hn.out;rw [List.drop_eq_nil_of_le (by omega)] at e1;exact e1
   clear hn;go_wp2;go_ret;exact ⟨zca (by rw [HW.out, HE.out]), hbw⟩
def zh7 (jj : R3) : Bool := !decide (jj.2.1 < 0) && (decide (jj.2.2.length = 0) || decide (zax jj.2.2 3 = 0)) && !(decide (jj.1 = 1) && decide (jj.2.2.length = 0))
def zii (L : List R3) : Bool := L.all zh7 && decide (L.length ≤ 60)
theorem rightR_ok {jj : R3} (h : zh7 jj = true) : OkP jj.2.2 := by
 simp only [zh7, Bool.and_eq_true, Bool.or_eq_true, decide_eq_true_eq] at h
 rcases h.1.2 with h | h
 ·rw [List.eq_nil_of_length_eq_zero h]; exact ze0
 ·exact zfk h
theorem zqi {L : List R3} (h : zii L = true) : OkL L ∧ L.length ≤ 60 := by
 simp only [zii, Bool.and_eq_true, decide_eq_true_eq, List.all_eq_true] at h
 exact ⟨fun jj hr => rightR_ok (h.1 jj hr), h.2⟩
def zc2 (l : List P3) (k : Int) : Bool := l.any fun p => decide (p.2.1 = k)
def atK (D : List D2) (k : Int) : Bool := D.any fun x => zc2 x.2 k
def zdi : List D2 → Int → Int
 | [], _ => -1
 | x :: t, k => if zc2 x.2 k = true then x.1 else zdi t k
theorem hasK_snoc (l : List P3) (p : P3) (k : Int) : zc2 (l ++ [p]) k = (zc2 l k || decide (p.2.1 = k)) := by simp [zc2]
theorem zlh {D : List D2} {k : Int} (h : atK D k = false) : zdi D k = -1 := by
 induction D with
 | nil => rfl
 | cons x t ih =>
  simp only [atK, List.any_cons, Bool.or_eq_false_iff] at h
  unfold zdi
  rw [h.1, if_neg (by simp)];exact ih h.2
theorem whoB_mem {D : List D2} {k : Int} (h : atK D k = true) : ∃ x ∈ D, x.1 = zdi D k ∧ zc2 x.2 k = true := by
 induction D with
 | nil => simp [atK] at h
 | cons x t ih =>
  unfold zdi
  by_cases hx : zc2 x.2 k = true
  ·rw [if_pos hx]; exact ⟨x, by simp, rfl, hx⟩
  ·rw [if_neg hx]
   simp only [atK, List.any_cons, Bool.or_eq_true] at h
   rcases h with h | h
   ·exact absurd h hx
   ·obtain ⟨y, hy, e, hk⟩ := ih h
    exact ⟨y, by simp [hy], e, hk⟩
theorem zov {D : List D2} {k : Int} {i : Nat} (h : i < D.length) (hk : zc2 D[i].2 k = true) (hlow : ∀ j (hj : j < D.length), j < i → zc2 D[j].2 k = false) : zdi D k = D[i].1 := by
 induction D generalizing i with
 | nil => simp at h
 | cons x t ih =>
  unfold zdi
  cases i with
  | zero => rw [if_pos (by simpa using hk)]; rfl
  | succ i =>
   have h0 := hlow 0 (by simp) (by omega);simp only [List.getElem_cons_zero] at h0
   rw [h0, if_neg (by simp)]
   exact ih (by simpa using h) (by simpa using hk) (fun j hj hji => by
    have := hlow (j + 1) (by simp; omega) (by omega)
    simpa using this)
theorem whoB_neg {D : List D2} (hD : ∀ x ∈ D, 0 ≤ x.1) (k : Int) : decide (zdi D k < 0) = !atK D k := by
 cases h : atK D k
 ·rw [zlh h]; rfl
 ·obtain ⟨x, hx, e, _⟩ := whoB_mem h
  have := hD x hx;rw [decide_eq_false (by omega)]; rfl
def IdxP {α : Type} (X : List α) (p : α → Bool) (jj : Int) : Prop := (jj = -1 ∧ ∀ x ∈ X, p x = false) ∨ ∃ (i : Nat) (h : i < X.length), jj = i ∧ p X[i] = true ∧ ∀ j (hj : j < X.length), j < i → p X[j] = false
theorem IdxP.any {α : Type} {X : List α} {p : α → Bool} {jj : Int} (h : IdxP X p jj) : decide (0 ≤ jj) = X.any p := by
 rcases h with ⟨rfl, h⟩ | ⟨i, hi, rfl, hp, _⟩
 ·have : X.any p = false := by rw [kac]; intro x hx; rw [h x hx]; simp
  rw [this]; rfl
 ·have : X.any p = true := by rw [kad]; exact ⟨_, List.getElem_mem hi, hp⟩
  rw [this];exact decide_eq_true (by omega)
def zfb (F : Nat) : Prop := Q (∀ (args : Array Value) (w : World), (callFunc F args).run Tryz.prog w = .ok (.enter F args) w)
def AtFn (w : World) (c : Nat) (key : Int) : Prop := ∃ b, w.cell? ⟨c, 0, U⟩ = some (.func (.func 177) #[] #[.pointer (some ⟨b, 0, U⟩)]) ∧ w.cell? ⟨b, 0, U⟩ = some (E J key) ∧ b < w.heap.size ∧ c < w.heap.size
theorem AtFn.below {w w' : World} {c : Nat} {key : Int} (h : AtFn w c key) (hb : Z w.heap.size w w') : AtFn w' c key := by
 obtain ⟨b, h1, h2, h3, h4⟩ := h;have hs := hb.size;exact ⟨b, (hb.cell (p := ⟨c, 0, U⟩) h4).trans h1, (hb.cell (p := ⟨b, 0, U⟩) h3).trans h2, by omega, by omega⟩
theorem zpg (la ra da : Option Addr) (nl lc nr rc nd dc : Nat) (s0 s1 s2 s3 key : Int) (XR : List XD) (w : World) (hn : nr = XR.length) (hl : XR.length ≤ 9223372036854775807) (hm : ∀ x ∈ XR, x.2.2.length ≤ 9223372036854775807) (hp : zfn w ra XR) :
  Calls Tryz.prog 125 #[.agg #[G la nl lc, E J s0, E J s1, E J s2, E J s3, G ra nr rc, G da nd dc], E J key] w fun e w' => e = .returned (E J (zdi (XR.map zbm) key)) ∧ Z w.heap.size w w' := by
 have HN := zD hn hl hm hp;have hnl : nr ≤ 9223372036854775807 := by omega
 clear hn hl hm hp;go_enter Tryz.func125, Tryz.ntmps125
 go_wp2;have hb0 := zh w (T #[G la nl lc, E J s0, E J s1, E J s2, E J s3, G ra nr rc, G da nd dc] 77);generalize w.alloc (T #[G la nl lc, E J s0, E J s1, E J s2, E J s3, G ra nr rc, G da nd dc] 77) = W at *;go_loopw [12] (fun i w' => ∃ k : Nat, k ≤ nr ∧ i = E J k ∧ Q (∀ x ∈ XR.take k, zc2 x.2.2 key = false) ∧ Z w.heap.size w w') (fun i _ => nr - (intOf i).toNat)
 case atStart => exact ⟨0, Nat.zero_le _, rfl, (fun x hx => by simp at hx), hb0⟩
 case round =>
  obtain ⟨k, hk, rfl, hno, hbw⟩ := hrel;have hsz := hbw.size;by_cases hlt : k < nr
  ·have hkX : k < XR.length := by have := HN.out.1; omega
   obtain ⟨g, o, rfl, hg, d0, d1, hq⟩ := (HN.out.2.2.2.below hbw).get hkX;have hmk := HN.out.2.2.1 _ (List.getElem_mem hkX)
   have HI : Q (zc2 XR[k].2.2 key = true → zdi (XR.map zbm) key = XR[k].1) := fun h => by
    have h := zov (D := XR.map zbm) (k := key) (i := k) (by rw [List.length_map]; exact hkX) (by rw [List.getElem_map]; exact h) (fun j hj hji => by rw [List.getElem_map]; exact hno.out _ (List.mem_take_iff_getElem.2 ⟨j, by rw [List.length_map] at hj; omega, rfl⟩));rw [h, List.getElem_map];rfl
   have HJ : Q (zc2 XR[k].2.2 key = false → ∀ x ∈ XR.take (k + 1), zc2 x.2.2 key = false) := fun h x hx => by
    rw [zav hkX] at hx;rcases kab.1 hx with hx | hx
    ·exact hno.out x hx
    ·rw [kaa.1 hx]; exact h
   clear hno;generalize XR[k] = x at *;obtain ⟨dd, ⟨ax, cx⟩, l⟩ := x;simp only at d0 d1 hq hmk HI HJ
   have hbV := zh wr (T #[E J dd, G ax l.length cx] 80);have hrV : Blk (wr.alloc (T #[E J dd, G ax l.length cx] 80)) wr.heap.size #[E J dd, G ax l.length cx] 80 := Blk.new _ _ _;have HQ := zB (hq.below hbV) (hbw.trans (hbV.mono hsz));clear hq hbV hbw;generalize hll : l.length = n2 at *;have HL := zA hll;clear hll;go_wp2;clear d0 d1;generalize wr.alloc (T #[E J dd, G ax n2 cx] 80) = V at *;generalize wr = wo at *;go_loopw [19] (fun i w' => ∃ j : Nat, j ≤ n2 ∧ i = E J j ∧ Q (zc2 (l.take j) key = false) ∧ Z V.heap.size V w') (fun i _ => n2 - (intOf i).toNat)
   case atStart => exact ⟨0, Nat.zero_le _, rfl, rfl, Below.refl _ _⟩
   case round =>
    obtain ⟨j, hj, rfl, hnj, hbj⟩ := hrel;have hszj := hbj.size;have hBj := HQ.out.2.trans (hbj.mono HQ.out.2.size);by_cases hltj : j < n2
    ·have hjl : j < l.length := by rw [HL.out]; exact hltj
     rcases HQ.out.1.below hbj with h0 | ⟨g2, o2, rfl, hg2, hc2⟩
     ·rw [h0] at hjl; simp at hjl
     obtain ⟨e0, e1, e2⟩ := hc2 j hjl
     have HA : Q (l[j].2.1 = key → zc2 l key = true) := fun h => by
      unfold zc2
      rw [kad];exact ⟨_, List.getElem_mem hjl, by simpa using h⟩
     have HB : Q (¬ l[j].2.1 = key → zc2 (l.take (j + 1)) key = false) := fun h => by
      rw [zav hjl, hasK_snoc, hnj.out, decide_eq_false h]; rfl
     have hrw := hrV.below hbj hrV.lt;have q0 := hrw.cell 0;have hql := hrw.lt;simp at q0
     have hbp := hBj;clear hc2 hnj hrw;generalize l[j] = p at *;obtain ⟨ph, pk, pn⟩ := p;simp only at e0 e1 e2 HA HB
     have hBn : Z w.heap.size w (wr.alloc (T #[E J ph, E J pk, E J pn] 90)) := hBj.trans ((zh wr _).mono hBj.size);have hBm : Z V.heap.size V (wr.alloc (T #[E J ph, E J pk, E J pn] 90)) := hbj.trans ((zh wr _).mono hbj.size);by_cases hd : pk = key
     ·have HF := zA (HI.out (HA.out hd))
      subst hd;clear HA HB HI HJ;go_wp2;go_ret;exact ⟨zca HF.out.symm, hBn⟩
     ·have HF := zA (HB.out hd)
      have hd' : (pk == key) = false := by simpa using hd
      clear HA HB HI hd;go_wp2;go_roundw
      case rel => exact ⟨j + 1, by omega, by go_num, HF, hBm⟩
      case measure => simp [intOf]; omega
    ·have HF := zA (HJ.out (by have := hnj.out; rwa [kae (by rw [HL.out]; omega)] at this))
     clear HI HJ hnj;go_wp2;go_roundw
     case rel => exact ⟨k + 1, by omega, by go_num, HF, hBj⟩
     case measure => simp [intOf]; omega
  ·have HF : Q (zdi (XR.map zbm) key = -1) := by
    show _ = _
    refine zlh ?_;unfold atK
    rw [List.any_map, kac];intro x hx;have := hno.out x (by rw [kae (by have := HN.out.1; omega)]; exact hx)
    simpa [zbm] using this
   clear hno;go_wp2;go_ret;exact ⟨zca HF.out.symm, hbw⟩
structure ze5 (w : World) (ra : Option Addr) (nr : Nat) (XR : List XD) (D : List D2) : Prop where
 n : nr = XR.length
 few : XR.length ≤ 9223372036854775807
 small : ∀ x ∈ XR, x.2.2.length ≤ 9223372036854775807
 lies : zfn w ra XR
 says : XR.map zbm = D
theorem ze5.below {w w' : World} {ra : Option Addr} {nr : Nat} {XR : List XD} {D : List D2} (h : ze5 w ra nr XR D) (hb : Z w.heap.size w w') : ze5 w' ra nr XR D := ⟨h.n, h.few, h.small, h.lies.below hb, h.says⟩
theorem zev.open {w : World} {v : Value} {L : List R3} {h : H3} {k : Nat} (hh : zev w v L h) (hi : zee k h) (hk : k ≤ 9223372036854775807) : ∃ (la : Option Addr) (nl lc : Nat) (ra : Option Addr) (nr rc : Nat) (XR : List XD) (da : Option Addr) (nd dc : Nat),
  v = .agg #[G la nl lc, E J h.1.1, E J h.1.2.1, E J h.1.2.2.1, E J h.1.2.2.2, G ra nr rc, G da nd dc] ∧ ze5 w ra nr XR h.2.1 := by
 obtain ⟨la, nl, lc, Y, ra, nr, rc, XR, da, nd, dc, hv, _, ⟨h4, h5, h6⟩, _⟩ := hh;refine ⟨la, nl, lc, ra, nr, rc, XR, da, nd, dc, hv, h4, ?_, ?_, h6, h5⟩
 ·have h1 := hi.few
  rw [← h5, List.length_map] at h1;omega
 ·intro x hx
  have h1 := (hi.ok (zbm x) (by rw [← h5]; exact List.mem_map.2 ⟨x, hx, rfl⟩)).1;have h2 : x.2.2.length ≤ 4 := h1;omega
theorem zo3 (la ra da : Option Addr) (nl lc nr rc nd dc : Nat) (s0 s1 s2 s3 key : Int) (XR : List XD) (D : List D2) (w : World) (h : ze5 w ra nr XR D) :
  Calls Tryz.prog 125 #[.agg #[G la nl lc, E J s0, E J s1, E J s2, E J s3, G ra nr rc, G da nd dc], E J key] w fun e w' => e = .returned (E J (zdi D key)) ∧ Z w.heap.size w w' := by
 rw [← h.says];exact zpg la ra da nl lc nr rc nd dc s0 s1 s2 s3 key XR w h.n h.few h.small h.lies
def inI (l : List Int) (d : Int) : Bool := l.any fun x => decide (x = d)
theorem zhm (l : List Int) (x d : Int) : inI (l ++ [x]) d = (inI l d || decide (x = d)) := by simp [inI]
def ze1 (D : List D2) (l : List P3) : Bool := l.any fun p => decide (0 ≤ zdi D p.2.1)
theorem zom (D : List D2) (l : List P3) (p : P3) : ze1 D (l ++ [p]) = (ze1 D l || decide (0 ≤ zdi D p.2.1)) := by simp [ze1]
def zcv (h : H3) (d : Int) (l : List P3) : Int :=
 if inI h.2.2 d = true then 10 else if zab h.2.1 d = true then 0 else if ze1 h.2.1 l = true then 12 else zco h.1 l
def za0 (h : H3) (k d : Int) (l : List P3) : Option R3 :=
 if k = 1 then (if zcv h d l = 0 ∧ zab h.2.1 d = false then some (1, d, l) else U)
 else if k = 4 then (if zab h.2.1 d = true then some (2, d, []) else U)
 else if k = 5 then (if zab h.2.1 d = true then some (3, d, []) else U)
 else U
def zp (L : List R3) (k d : Int) (l : List P3) : List R3 := L ++ (za0 (zd L) k d l).toList
theorem hearL_len (L : List R3) (k d : Int) (l : List P3) : (zp L k d l).length ≤ L.length + 1 := by
 unfold zp
 rw [List.length_append];cases za0 (zd L) k d l <;> simp
theorem ze7 {L : List R3} {k d : Int} {l : List P3} (h : za0 (zd L) k d l = U) : zp L k d l = L := by simp [zp, h]
theorem zd7 {L : List R3} {k d : Int} {l : List P3} {jj : R3} (h : za0 (zd L) k d l = some jj) : zp L k d l = L ++ [jj] := by simp [zp, h]
abbrev Q4 := Int × Int × Int × List P3
def zdg (L : List R3) (k d : Int) (l : List P3) : Option Int :=
 if k = 1 then (if zcv (zd L) d l = 10 then U else if zcv (zd L) d l = 0 then some 2 else some 3)
 else if k = 4 then (if inI (zd (zp L k d l)).2.2 d = true then some 6 else U)
 else U
def zau (L : List R3) (me k d : Int) (l : List P3) : List Q4 := (zdg L k d l).toList.map fun s => (s, d, me, [])
def za9 (k d h : Int) (l : List P3) : Int :=
 if k < 1 ∨ 7 < k then 1 else if d < 0 ∨ 1343 < d ∨ h < 0 ∨ 2 < h then 3
 else if 1 < k then (if l.length = 0 then 0 else 5)
 else if zax l 3 = 0 then (if (l.any fun p => !decide (p.1 = h)) = true then 3 else 0) else zax l 3
theorem zih {k d h : Int} {l : List P3} (hw : za9 k d h l = 0) : 0 ≤ d ∧ d ≤ 1343 ∧ 1 ≤ k ∧ k ≤ 7 ∧ (1 < k → l = []) ∧ (k = 1 → zax l 3 = 0 ∧ ∀ p ∈ l, p.1 = h) := by
 unfold za9 at hw
 split at hw
 ·cases hw
 ·rename_i h1
  split at hw
  ·cases hw
  ·rename_i h2
   refine ⟨by omega, by omega, by omega, by omega, fun h3 => ?_, fun h3 => ?_⟩
   ·rw [if_pos h3] at hw
    split at hw
    ·rename_i h4; exact List.eq_nil_of_length_eq_zero h4
    ·cases hw
   ·rw [if_neg (by omega)] at hw
    split at hw
    ·rename_i h4
     split at hw
     ·cases hw
     ·rename_i h5
      refine ⟨h4, fun p hp => ?_⟩;simp only [kad, Bool.not_eq_true', decide_eq_false_iff_not, not_exists, not_and, Decidable.not_not] at h5
      exact h5 p hp
    ·rename_i h4; exact absurd hw h4
structure Lone (h : H3) : Prop where
 pos : ∀ x ∈ h.2.1, 0 ≤ x.1
 ok : ∀ x ∈ h.2.1, OkP x.2
 nd : (h.2.1.map (·.1)).Nodup
 sep : h.2.1.Pairwise (fun x y => ∀ p ∈ x.2, ∀ q ∈ y.2, p.2.1 ≠ q.2.1)
 own : ∀ x ∈ h.2.1, x.2.Pairwise (fun p q => p.2.1 ≠ q.2.1)
 fits : ∀ x ∈ h.2.1, ∀ p ∈ x.2, 0 ≤ za8 h.1 p.2.1 + p.2.2 ∧ za8 h.1 p.2.1 + p.2.2 ≤ 1048576
 right : zfx h.1 = true
theorem lone_nil : Lone ((0, 0, 0, 0), [], []) := ⟨(fun _ h => by cases h), (fun _ h => by cases h), by simp, by simp, (fun _ h => by cases h), (fun _ h => by cases h), by decide⟩
theorem zjh : ∀ {D : List D2}, D.Pairwise (fun x y => ∀ p ∈ x.2, ∀ q ∈ y.2, p.2.1 ≠ q.2.1) → ∀ x ∈ D, ∀ y ∈ D, x.1 ≠ y.1 → ∀ p ∈ x.2, ∀ q ∈ y.2, p.2.1 ≠ q.2.1
 | [], _, x, hx => by cases hx
 | z :: t, h, x, hx => by
  intro y hy hne p hp q hq;rw [List.pairwise_cons] at h;rcases List.mem_cons.1 hx with ex | hx
  ·rcases List.mem_cons.1 hy with ey | hy
   ·exact absurd (by rw [ex, ey]) hne
   ·rw [ex] at hp
    exact h.1 y hy p hp q hq
  ·rcases List.mem_cons.1 hy with ey | hy
   ·rw [ey] at hq
    exact fun e => h.1 x hx q hq p hp e.symm
   ·exact zjh h.2 x hx y hy hne p hp q hq
theorem zly {D : List D2} {l : List P3} (hD : ∀ x ∈ D, 0 ≤ x.1) (h : ze1 D l = false) : ∀ p ∈ l, ∀ x ∈ D, ∀ q ∈ x.2, q.2.1 ≠ p.2.1 := by
 intro p hp x hx q hq e;simp only [ze1, kac, decide_eq_true_eq] at h
 have h1 := h p hp;have h2 := whoB_neg hD p.2.1
 have h3 : atK D p.2.1 = true := by
  simp only [atK, zc2, kad, decide_eq_true_eq]
  exact ⟨x, hx, q, hq, e⟩
 rw [h3, decide_eq_true (by omega)] at h2;cases h2
theorem keys_at {l : List P3} {c H : Int} (hin : ∀ p ∈ l, inB p H = true) (hc : ∀ p ∈ l, p.1 = c) (hpw : l.Pairwise (fun p q => zex p q = false)) : (∀ p ∈ l, zb4 p.2.1 = true) ∧ l.Pairwise (fun p q => p.2.1 ≠ q.2.1) := by
 refine ⟨fun p hp => ?_, List.Pairwise.imp_of_mem (fun hp hq h => ?_) hpw⟩
 ·have := hin p hp
  simp only [inB, decide_eq_true_eq] at this
  simp only [zb4, decide_eq_true_eq]; omega
 ·simp only [zex, decide_eq_false_iff_not, not_and] at h
  exact h ((hc _ hp).trans (hc _ hq).symm)
theorem zo2 {h : H3} {d c : Int} {l : List P3} (H : Lone h) (hd : 0 ≤ d) (hw : zax l 3 = 0) (hh : ∀ p ∈ l, p.1 = c) (hv : zcv h d l = 0) (hn : zab h.2.1 d = false) : Lone (zbe h (1, d, l)) := by
 obtain ⟨s, D, dn⟩ := h
 have e : zbe (s, D, dn) (1, d, l) = (s, D ++ [(d, l)], dn) := by
  unfold zbe
  rw [if_pos rfl, if_neg (by rw [hn]; simp)]
 rw [e];obtain ⟨h1, h4, hin, hpw⟩ := zc5 hw;have hok := zfk hw;have hkeys := keys_at hin hh hpw;unfold zcv at hv
 simp only at hv hn
 split at hv
 ·cases hv
 rw [if_neg (by rw [hn]; simp)] at hv;split at hv
 ·cases hv
 rename_i ht
 have hfree := zly H.pos (by simpa using ht);have hfits := zi8.1 hv;refine ⟨?_, ?_, ?_, ?_, ?_, ?_, H.right⟩
 ·intro x hx
  rcases kab.1 hx with hx | hx
  ·exact H.pos x hx
  ·rw [kaa.1 hx]; exact hd
 ·intro x hx
  rcases kab.1 hx with hx | hx
  ·exact H.ok x hx
  ·rw [kaa.1 hx]; exact hok
 ·show ((D ++ [(d, l)]).map (·.1)).Nodup
  rw [List.map_append, List.nodup_append];refine ⟨H.nd, by simp, ?_⟩;intro a ha b hb hab;simp at hb
  subst hb;subst hab;obtain ⟨x, hx, hxa⟩ := List.mem_map.1 ha;simp only [zab, kac, decide_eq_true_eq] at hn
  exact hn x hx hxa
 ·show (D ++ [(d, l)]).Pairwise _
  rw [List.pairwise_append];refine ⟨H.sep, by simp, ?_⟩;intro x hx y hy p hp q hq;rw [kaa.1 hy] at hq;exact hfree q hq x hx p hp
 ·intro x hx
  rcases kab.1 hx with hx | hx
  ·exact H.own x hx
  ·rw [kaa.1 hx]; exact hkeys.2
 ·intro x hx p hp
  rcases kab.1 hx with hx | hx
  ·exact H.fits x hx p hp
  ·rw [kaa.1 hx] at hp
   exact hfits p hp (hkeys.1 p hp)
theorem zmy {h : H3} (H : Lone h) (d : Int) (dn : List Int) : Lone (h.1, zal h.2.1 d, dn) :=
 ⟨fun x hx => H.pos x (zcz hx).1, fun x hx => H.ok x (zcz hx).1, zh9 H.nd d, List.Pairwise.sublist List.filter_sublist H.sep, fun x hx => H.own x (zcz hx).1, fun x hx => H.fits x (zcz hx).1, H.right⟩
theorem lone_drop {h : H3} {d : Int} {l : List P3} (H : Lone h) : Lone (zbe h (3, d, l)) := by
 have e : zbe h (3, d, l) = (h.1, zal h.2.1 d, h.2.2) := by
  unfold zbe
  rw [if_neg (fun h => absurd (show (3 : Int) = 1 from h) (by decide)), if_neg (fun h => absurd (show (3 : Int) = 2 from h) (by decide)), if_pos rfl]
 rw [e];exact zmy H d _
theorem right_doB {s : S4} {l : List P3} (hs : zfx s = true) (hpw : l.Pairwise (fun p q => p.2.1 ≠ q.2.1)) (hf : ∀ p ∈ l, 0 ≤ za8 s p.2.1 + p.2.2 ∧ za8 s p.2.1 + p.2.2 ≤ 1048576) : zfx (doB s l) = true := by
 rw [zpj] at hs ⊢
 intro k hkk;by_cases hx : ∃ p ∈ l, p.2.1 = k
 ·obtain ⟨p, hp, rfl⟩ := hx
  rw [zmf hpw p hp hkk];exact hf p hp
 ·rw [zia hkk (fun p hp e => hx ⟨p, hp, e⟩)]
  exact hs k hkk
theorem lone_done {h : H3} {d : Int} {l : List P3} (H : Lone h) (hd : zab h.2.1 d = true) : Lone (zbe h (2, d, l)) := by
 have e : zbe h (2, d, l) = (doB h.1 (zcg h.2.1 d), zal h.2.1 d, h.2.2 ++ [d]) := by
  unfold zbe
  rw [if_neg (fun h => absurd (show (2 : Int) = 1 from h) (by decide)), if_pos rfl, if_pos hd]
 rw [e];obtain ⟨x, hx, hxd, hf⟩ := ziw hd;rw [hf];have A := zmy H d (h.2.2 ++ [d]);refine ⟨A.pos, A.ok, A.nd, A.sep, A.own, ?_, right_doB H.right (H.own x hx) (H.fits x hx)⟩;intro y hy p hp;obtain ⟨hyD, hyd⟩ := zcz hy;have hky := (H.ok y hyD).2.2 p hp;show 0 ≤ za8 (doB h.1 x.2) p.2.1 + p.2.2 ∧ _
 rw [zia hky (fun q hq => zjh H.sep x hx y hyD (by rw [hxd]; exact fun e => hyd e.symm) q hq p hp)];exact H.fits y hyD p hp
structure zdt (L : List R3) : Prop where
 ok : OkL L
 within : ∀ k, k ≤ L.length → zbj 2199023255552 (zd (L.take k)).1
 lone : Lone (zd L)
theorem good_nil : zdt [] := ⟨(fun jj hr => by cases hr), (fun k hk => by
 have e : zd (([] : List R3).take k) = ((0, 0, 0, 0), [], []) := by simp [zd]
 rw [e]
 simp [zbj]), lone_nil⟩
theorem zdt.note {L : List R3} (H : zdt L) {jj : R3} (hr : OkP jj.2.2) (ha : Lone (zbe (zd L) jj)) : zdt (L ++ [jj]) := by
 refine ⟨?_, ?_, by rw [zer]; exact ha⟩
 ·intro q hq
  rcases kab.1 hq with hq | hq
  ·exact H.ok q hq
  ·rw [kaa.1 hq]; exact hr
 ·intro k hk
  by_cases h : k ≤ L.length
  ·rw [List.take_append_of_le_length h]
   exact H.within k h
  ·rw [kae (by simp; omega), zer]
   exact zgx (zp5 ha.right) (by decide)
theorem zdt.hear {L : List R3} (H : zdt L) {k d c : Int} {l : List P3} (hw : za9 k d c l = 0) : zdt (zp L k d l) := by
 obtain ⟨h1, h2, h3, h4, h5, h6⟩ := zih hw
 cases hr : za0 (zd L) k d l with
 | none => rw [ze7 hr]; exact H
 | some jj =>
  rw [zd7 hr];unfold za0 at hr
  split at hr
  ·rename_i hk
   split at hr
   ·rename_i hc
    cases hr;obtain ⟨h7, h8⟩ := h6 hk;exact H.note (zfk h7) (zo2 H.lone h1 h7 h8 hc.1 hc.2)
   ·cases hr
  ·split at hr
   ·split at hr
    ·rename_i hc
     cases hr;exact H.note ze0 (lone_done H.lone hc)
    ·cases hr
   ·split at hr
    ·split at hr
     ·rename_i hc
      cases hr;exact H.note ze0 (lone_drop H.lone)
     ·cases hr
    ·cases hr
theorem zmj (D : List D2) (d : Int) : zab (zal D d) d = false := by
 simp only [zab, zal, kac, List.mem_filter, Bool.not_eq_true', decide_eq_false_iff_not, decide_eq_true_eq]
 exact fun x hx => hx.2
theorem zgr (D : List D2) {d d' : Int} (h : d' ≠ d) : zab (zal D d') d = zab D d := by
 unfold zab zal
 rw [Bool.eq_iff_iff];simp only [kad, List.mem_filter, Bool.not_eq_true', decide_eq_false_iff_not, decide_eq_true_eq]
 constructor
 ·rintro ⟨x, ⟨hx, _⟩, e⟩; exact ⟨x, hx, e⟩
 ·rintro ⟨x, hx, e⟩; exact ⟨x, ⟨hx, fun h' => h (h'.symm.trans e)⟩, e⟩
theorem zg6 (D : List D2) (d : Int) (l : List P3) (d' : Int) : zab (D ++ [(d, l)]) d' = (zab D d' || decide (d = d')) := by simp [zab]
theorem hstep1 {h : H3} {d : Int} {l : List P3} (hn : zab h.2.1 d = false) : zbe h (1, d, l) = (h.1, h.2.1 ++ [(d, l)], h.2.2) := by
 unfold zbe; rw [if_pos rfl, if_neg (by rw [hn]; simp)]
theorem hstep2 {h : H3} {d : Int} {l : List P3} (hn : zab h.2.1 d = true) : zbe h (2, d, l) = (doB h.1 (zcg h.2.1 d), zal h.2.1 d, h.2.2 ++ [d]) := by
 unfold zbe
 rw [if_neg (fun h => absurd (show (2 : Int) = 1 from h) (by decide)), if_pos rfl, if_pos hn]
theorem hstep3 (h : H3) (d : Int) (l : List P3) : zbe h (3, d, l) = (h.1, zal h.2.1 d, h.2.2) := by
 unfold zbe
 rw [if_neg (fun h => absurd (show (3 : Int) = 1 from h) (by decide)), if_neg (fun h => absurd (show (3 : Int) = 2 from h) (by decide)), if_pos rfl]
theorem zjk {h : H3} {d : Int} {l : List P3} (hv : zcv h d l = 0) : inI h.2.2 d = false ∧ (zab h.2.1 d = true ∨ ze1 h.2.1 l = false ∧ zco h.1 l = 0) := by
 unfold zcv at hv
 split at hv
 ·cases hv
 ·rename_i h1
  refine ⟨by simpa using h1, ?_⟩;split at hv
  ·rename_i h2; exact Or.inl h2
  ·split at hv
   ·cases hv
   ·rename_i h3; exact Or.inr ⟨by simpa using h3, hv⟩
theorem zjn (h : H3) (k d : Int) (l : List P3) : za0 h k d l = U ∨ (k = 1 ∧ zcv h d l = 0 ∧ zab h.2.1 d = false ∧ za0 h k d l = some (1, d, l)) ∨ (k = 4 ∧ zab h.2.1 d = true ∧ za0 h k d l = some (2, d, [])) ∨ (k = 5 ∧ zab h.2.1 d = true ∧ za0 h k d l = some (3, d, [])) := by
 by_cases k1 : k = 1
 ·subst k1
  by_cases hc : zcv h d l = 0 ∧ zab h.2.1 d = false
  ·exact Or.inr (Or.inl ⟨rfl, hc.1, hc.2, by unfold za0; rw [if_pos rfl, if_pos hc]⟩)
  ·exact Or.inl (by unfold za0; rw [if_pos rfl, if_neg hc])
 ·by_cases k4 : k = 4
  ·subst k4
   by_cases hc : zab h.2.1 d = true
   ·exact Or.inr (Or.inr (Or.inl ⟨rfl, hc, by unfold za0; rw [if_neg k1, if_pos rfl, if_pos hc]⟩))
   ·exact Or.inl (by unfold za0; rw [if_neg k1, if_pos rfl, if_neg hc])
  ·by_cases k5 : k = 5
   ·subst k5
    by_cases hc : zab h.2.1 d = true
    ·exact Or.inr (Or.inr (Or.inr ⟨rfl, hc, by unfold za0; rw [if_neg k1, if_neg k4, if_pos rfl, if_pos hc]⟩))
    ·exact Or.inl (by unfold za0; rw [if_neg k1, if_neg k4, if_pos rfl, if_neg hc])
   ·exact Or.inl (by unfold za0; rw [if_neg k1, if_neg k4, if_neg k5])
def zb7 : List P3 → Int → Nat
 | [], _ => 0
 | p :: t, k => (if p.2.1 = k then p.2.2.natAbs else 0) + zb7 t k
def zcb : List D2 → Int → Nat
 | [], _ => 0
 | x :: t, k => zb7 x.2 k + zcb t k
theorem absK_le {k : Int} : ∀ {l : List P3}, zdz l → zb7 l k ≤ l.length * 1048576
 | [], _ => Nat.le_refl _
 | p :: t, h => by
  have h1 := h p (by simp);have h2 := absK_le (k := k) (l := t) (fun q hq => h q (by simp [hq]));have h3 : (if p.2.1 = k then p.2.2.natAbs else 0) ≤ 1048576 := by split <;> omega
  show (if p.2.1 = k then p.2.2.natAbs else 0) + zb7 t k ≤ (t.length + 1) * 1048576
  omega
theorem zh3 {k : Int} : ∀ {l : List P3}, (∀ p ∈ l, p.2.1 ≠ k) → zb7 l k = 0
 | [], _ => rfl
 | p :: t, h => by
  show (if p.2.1 = k then p.2.2.natAbs else 0) + zb7 t k = 0
  rw [if_neg (h p (by simp)), zh3 (fun q hq => h q (by simp [hq]))]
theorem zmw : ∀ {l : List P3}, l.Pairwise (fun p q => p.2.1 ≠ q.2.1) → ∀ p ∈ l, zb7 l p.2.1 = p.2.2.natAbs
 | [], _, p, hp => by cases hp
 | x :: t, h, p, hp => by
  rw [List.pairwise_cons] at h;show (if x.2.1 = p.2.1 then x.2.2.natAbs else 0) + zb7 t p.2.1 = p.2.2.natAbs
  rcases List.mem_cons.1 hp with e | hp
  ·subst e
   rw [if_pos rfl, zh3 (fun q hq e => h.1 q hq e.symm)];rfl
  ·rw [if_neg (h.1 p hp), zmw h.2 p hp]
   omega
theorem zl9 {k : Int} (hk : zb4 k = true) (s : S4) : ∀ (l : List P3), (za8 (doB s l) k).natAbs ≤ (za8 s k).natAbs + zb7 l k
 | [] => Nat.le_refl _
 | p :: t => by
  have ih := zl9 hk s t;rw [zf3];show _ ≤ _ + ((if p.2.1 = k then p.2.2.natAbs else 0) + zb7 t k)
  unfold do1
  split
  ·rename_i hp
   by_cases e : p.2.1 = k
   ·rw [if_pos e, e, zl4 _ hk]
    omega
   ·rw [if_neg e, zji _ hk hp (fun h => e h.symm)]
    omega
  ·omega
theorem potD_put (D : List D2) (x : D2) (k : Int) : zcb (D ++ [x]) k = zcb D k + zb7 x.2 k := by
 induction D with
 | nil => show zb7 x.2 k + 0 = 0 + zb7 x.2 k; omega
 | cons y t ih =>
  show zb7 y.2 k + zcb (t ++ [x]) k = zb7 y.2 k + zcb t k + zb7 x.2 k
  rw [ih]; omega
theorem zl1 {k : Int} : ∀ {D : List D2}, (∀ x ∈ D, ∀ p ∈ x.2, p.2.1 ≠ k) → zcb D k = 0
 | [], _ => rfl
 | y :: t, h => by
  show zb7 y.2 k + zcb t k = 0
  rw [zh3 (h y (by simp)), zl1 (fun x hx => h x (by simp [hx]))]
theorem potD_le {k : Int} : ∀ {D : List D2}, (∀ x ∈ D, OkP x.2) → zcb D k ≤ D.length * 4194304
 | [], _ => Nat.le_refl _
 | y :: t, h => by
  obtain ⟨h1, h2, _⟩ := h y (by simp);have h3 := absK_le (k := k) h2;have h4 := potD_le (k := k) (D := t) (fun x hx => h x (by simp [hx]));show zb7 y.2 k + zcb t k ≤ (t.length + 1) * 4194304
  omega
theorem zjv (d k : Int) : ∀ (D : List D2), zcb (zal D d) k ≤ zcb D k ∧ (zab D d = true → zcb (zal D d) k + zb7 (zcg D d) k ≤ zcb D k)
 | [] => ⟨Nat.le_refl _, fun h => by cases h⟩
 | y :: t => by
  obtain ⟨h1, h2⟩ := zjv d k t;by_cases e : y.1 = d
  ·have e1 : zal (y :: t) d = zal t d := by simp [zal, e]
   have e2 : zcg (y :: t) d = y.2 := by simp [zcg, e]
   rw [e1, e2];show _ ≤ zb7 y.2 k + zcb t k ∧ (_ → _ ≤ zb7 y.2 k + zcb t k)
   exact ⟨by omega, fun _ => by omega⟩
  ·have e1 : zal (y :: t) d = y :: zal t d := by simp [zal, e]
   have e2 : zcg (y :: t) d = zcg t d := by simp [zcg, e]
   have e3 : zab (y :: t) d = zab t d := by simp [zab, e]
   rw [e1, e2, e3];show zb7 y.2 k + zcb (zal t d) k ≤ zb7 y.2 k + zcb t k ∧ (_ → zb7 y.2 k + zcb (zal t d) k + _ ≤ zb7 y.2 k + zcb t k)
   exact ⟨by omega, fun h => by have := h2 h; omega⟩
structure zeh (h : H3) : Prop where
 pos : ∀ x ∈ h.2.1, 0 ≤ x.1
 ok : ∀ x ∈ h.2.1, OkP x.2
 pot : ∀ k, zb4 k = true → (za8 h.1 k).natAbs + zcb h.2.1 k ≤ 1000000000
theorem zeh.within {h : H3} (H : zeh h) : zbj 2199023255552 h.1 := by
 have h0 := H.pot 0 (by decide);have h1 := H.pot 1 (by decide);have h2 := H.pot 2 (by decide);have h3 := H.pot 3 (by decide);have e0 : za8 h.1 0 = h.1.1 := rfl;have e1 : za8 h.1 1 = h.1.2.1 := rfl;have e2 : za8 h.1 2 = h.1.2.2.1 := rfl;have e3 : za8 h.1 3 = h.1.2.2.2 := rfl;rw [e0] at h0;rw [e1] at h1;rw [e2] at h2;rw [e3] at h3;exact ⟨by omega, by omega, by omega, by omega⟩
theorem zeh.ready {h : H3} {d c : Int} {l : List P3} (H : zeh h) (hd : 0 ≤ d) (hw : zax l 3 = 0) (hh : ∀ p ∈ l, p.1 = c) (hv : zcv h d l = 0) (hn : zab h.2.1 d = false) : zeh (zbe h (1, d, l)) := by
 rw [hstep1 hn];obtain ⟨h1, h4, hin, hpw⟩ := zc5 hw;have hok := zfk hw;have hkeys := keys_at hin hh hpw;obtain ⟨_, hv⟩ := zjk hv;rcases hv with hv | ⟨ht, hf⟩
 ·rw [hn] at hv; cases hv
 have hfree := zly H.pos ht;have hfits := zi8.1 hf;refine ⟨?_, ?_, ?_⟩
 ·intro x hx
  rcases kab.1 hx with hx | hx
  ·exact H.pos x hx
  ·rw [kaa.1 hx]; exact hd
 ·intro x hx
  rcases kab.1 hx with hx | hx
  ·exact H.ok x hx
  ·rw [kaa.1 hx]; exact hok
 ·intro k hk
  show (za8 h.1 k).natAbs + zcb (h.2.1 ++ [(d, l)]) k ≤ _
  rw [potD_put];show (za8 h.1 k).natAbs + (zcb h.2.1 k + zb7 l k) ≤ _
  by_cases hx : ∃ p ∈ l, p.2.1 = k
  ·obtain ⟨p, hp, rfl⟩ := hx
   have f := hfits p hp hk;have s := hok.2.1 p hp;rw [zl1 (fun x hx q hq => hfree p hp x hx q hq), zmw hkeys.2 p hp];omega
  ·rw [zh3 (fun p hp e => hx ⟨p, hp, e⟩)]
   have := H.pot k hk;omega
theorem zeh.done {h : H3} {d : Int} {l : List P3} (H : zeh h) (hn : zab h.2.1 d = true) : zeh (zbe h (2, d, l)) := by
 rw [hstep2 hn];refine ⟨fun x hx => H.pos x (zcz hx).1, fun x hx => H.ok x (zcz hx).1, fun k hk => ?_⟩;have h1 := zl9 hk h.1 (zcg h.2.1 d);have h2 := (zjv d k h.2.1).2 hn;have h3 := H.pot k hk;show (za8 (doB h.1 (zcg h.2.1 d)) k).natAbs + zcb (zal h.2.1 d) k ≤ _
 omega
theorem zeh.drop {h : H3} {d : Int} {l : List P3} (H : zeh h) : zeh (zbe h (3, d, l)) := by
 rw [hstep3];refine ⟨fun x hx => H.pos x (zcz hx).1, fun x hx => H.ok x (zcz hx).1, fun k hk => ?_⟩;have h2 := (zjv d k h.2.1).1;have h3 := H.pot k hk;show (za8 h.1 k).natAbs + zcb (zal h.2.1 d) k ≤ _
 omega
structure Mild (L : List R3) : Prop where
 ok : OkL L
 within : ∀ k, k ≤ L.length → zbj 2199023255552 (zd (L.take k)).1
 bound : zeh (zd L)
theorem Mild.calc {L : List R3} (H : Mild L) (h : L.length * 40 ≤ 140737488355328) : zc8 L := ⟨H.ok, H.within, h⟩
theorem zn6 {B : Int} {s : S4} (h : zbj B s) {k : Int} (hk : zb4 k = true) : ((za8 s k).natAbs : Int) ≤ B := by
 obtain ⟨a, b, c, d⟩ := h;rcases zgg.1 hk with rfl | rfl | rfl | rfl
 ·show ((s.1).natAbs : Int) ≤ B; omega
 ·show ((s.2.1).natAbs : Int) ≤ B; omega
 ·show ((s.2.2.1).natAbs : Int) ≤ B; omega
 ·show ((s.2.2.2).natAbs : Int) ≤ B; omega
theorem Mild.right {L : List R3} (h : zii L = true) : Mild L := by
 obtain ⟨hok, hl⟩ := zqi h;have hC := zc8.of hok (by omega);have hi := zft hok;refine ⟨hok, hC.within, fun x hx => ?_, hi.ok, fun k hk => ?_⟩
 ·obtain ⟨jj, hr, rfl⟩ := zp1 hx
  simp only [zii, Bool.and_eq_true, List.all_eq_true] at h
  have := h.1 jj hr;simp only [zh7, Bool.and_eq_true, Bool.not_eq_true', decide_eq_false_iff_not] at this
  show 0 ≤ jj.2.1
  omega
 ·have h1 := zn6 hi.within hk
  have h2 := potD_le (k := k) hi.ok;have h3 := hi.few;omega
theorem Mild.note {L : List R3} (H : Mild L) {jj : R3} (hr : OkP jj.2.2) (hb : zeh (zbe (zd L) jj)) : Mild (L ++ [jj]) := by
 refine ⟨?_, ?_, by rw [zer]; exact hb⟩
 ·intro q hq
  rcases kab.1 hq with hq | hq
  ·exact H.ok q hq
  ·rw [kaa.1 hq]; exact hr
 ·intro k hk
  by_cases h : k ≤ L.length
  ·rw [List.take_append_of_le_length h]
   exact H.within k h
  ·rw [kae (by simp; omega), zer]
   exact hb.within
theorem Mild.hear {L : List R3} (H : Mild L) {k d c : Int} {l : List P3} (hw : za9 k d c l = 0) : Mild (zp L k d l) := by
 obtain ⟨h1, h2, h3, h4, h5, h6⟩ := zih hw;rcases zjn (zd L) k d l with h' | ⟨rfl, hv, hn, h'⟩ | ⟨rfl, hn, h'⟩ | ⟨rfl, hn, h'⟩
 ·rw [ze7 h']; exact H
 ·rw [zd7 h']
  obtain ⟨h7, h8⟩ := h6 rfl;exact H.note (zfk h7) (H.bound.ready h1 h7 h8 hv hn)
 ·rw [zd7 h']; exact H.note ze0 (H.bound.done hn)
 ·rw [zd7 h']; exact H.note ze0 H.bound.drop
end Go.Proofs.YtpcnlifmkhagkaaGreat
