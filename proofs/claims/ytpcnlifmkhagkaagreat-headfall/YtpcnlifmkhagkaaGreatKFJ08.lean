import Derived.Test.YtpcnlifmkhagkaaGreatKFJ07
set_option maxRecDepth 20000
set_option maxHeartbeats 20000000
namespace Go.Proofs.YtpcnlifmkhagkaaGreat
open Go.RowKit
open Go.Value renaming slice → G, int → E
open Go.IntKind renaming i64 → J
open _root_.Option renaming none → U
open Go.Obj renaming cells → T
open Go.RowKit renaming Hid → Q, Below → Z
open Go.World renaming setCell → r
open _root_.Or renaming inl → kaa
open _root_.Nat renaming le_refl → kab
attribute [local go_sem ↓] Go.wp_at_zero Go.wp_at_succ
theorem zfq (a : Option Addr) (l : List Int) (cap n : Nat) (d : Int) (w : World) (hn : n = l.length) (hl : l.length ≤ 9223372036854775807) (hp : zk 1 zq w a l) :
  Calls Tryz.prog 61 #[G a n cap, E J d] w fun e w' => e = .returned (.bool (inI l d)) ∧ Z w.heap.size w w' := by
 have HN := zB hn hp;have hnl : n ≤ 9223372036854775807 := by omega
 clear hn hp hl;go_enter Tryz.func61, Tryz.ntmps61
 go_wp2;go_loopw [9] (fun i w' => ∃ k : Nat, k ≤ n ∧ i = E J k ∧ Q (inI (l.take k) d = false) ∧ Z w.heap.size w w') (fun i _ => n - (intOf i).toNat)
 case atStart => exact ⟨0, Nat.zero_le _, rfl, rfl, Below.refl _ _⟩
 case round =>
  obtain ⟨k, hk, rfl, hno, hbw⟩ := hrel;by_cases hlt : k < n
  ·have hkl : k < l.length := by have := HN.out.1; omega
   rcases HN.out.2.below hbw with h0 | ⟨g, o, rfl, hg, hc⟩
   ·rw [h0] at hkl; simp at hkl
   have d0 := hc k hkl 0 _ rfl;simp only [Nat.mul_one, Nat.add_zero] at d0
   have HA : Q (l[k] = d → inI l d = true) := fun h => by
    unfold inI
    rw [List.any_eq_true];exact ⟨_, List.getElem_mem hkl, by simpa using h⟩
   have HB : Q (¬ l[k] = d → inI (l.take (k + 1)) d = false) := fun h => by
    rw [zax hkl, zg8, hno.out, decide_eq_false h]; rfl
   clear hc hno;generalize l[k] = x at *;by_cases hd : x = d
   ·have HF := zA (HA.out hd)
    subst hd;clear HA HB;go_wp2;go_ret;exact ⟨zgh HF.out.symm, hbw⟩
   ·have HF := zA (HB.out hd)
    have hd' : (x == d) = false := by simpa using hd
    clear HA HB hd;go_wp2;go_roundw
    case rel => exact ⟨k + 1, by omega, by go_num, HF, hbw⟩
    case measure => simp [intOf]; omega
  ·have HF : Q (inI l d = false) := by have := hno.out; rwa [List.take_of_length_le (by have := HN.out.1; omega)] at this
   clear hno;go_wp2;go_ret;exact ⟨zgh HF.out.symm, hbw⟩
theorem hasD_snoc (D : List D2) (x : D2) (d : Int) : zae (D ++ [x]) d = (zae D d || decide (x.1 = d)) := by simp [zae]
theorem zh8 (la ra da : Option Addr) (nl lc nr rc nd dc : Nat) (s0 s1 s2 s3 d : Int) (XR : List XD) (D : List D2) (w : World) (h : zfb w ra nr XR D) :
  Calls Tryz.prog 103 #[.agg #[G la nl lc, E J s0, E J s1, E J s2, E J s3, G ra nr rc, G da nd dc], E J d] w fun e w' => e = .returned (.bool (zae D d)) ∧ Z w.heap.size w w' := by
 have HN := zA h;have hnl : nr ≤ 9223372036854775807 := by have := h.n; have := h.few; omega
 clear h;go_enter Tryz.func103, Tryz.ntmps103
 go_wp2;have hb0 := zg w (T #[G la nl lc, E J s0, E J s1, E J s2, E J s3, G ra nr rc, G da nd dc] 77);generalize w.alloc (T #[G la nl lc, E J s0, E J s1, E J s2, E J s3, G ra nr rc, G da nd dc] 77) = W at *;go_loopw [10] (fun i w' => ∃ k : Nat, k ≤ nr ∧ i = E J k ∧ Q (zae (D.take k) d = false) ∧ Z w.heap.size w w') (fun i _ => nr - (intOf i).toNat)
 case atStart => exact ⟨0, Nat.zero_le _, rfl, rfl, hb0⟩
 case round =>
  obtain ⟨k, hk, rfl, hno, hbw⟩ := hrel;have hsz := hbw.size;by_cases hlt : k < nr
  ·have hkX : k < XR.length := by have := HN.out.n; omega
   have hkD : k < D.length := by rw [← HN.out.says, List.length_map]; exact hkX
   have hDk : D[k].1 = XR[k].1 := by
    have : D = XR.map zaz := HN.out.says.symm;subst this;rw [List.getElem_map];rfl
   obtain ⟨g, o, rfl, hg, d0, d1, hq⟩ := (HN.out.lies.below hbw).get hkX
   have HA : Q (XR[k].1 = d → zae D d = true) := fun h => by
    unfold zae
    rw [List.any_eq_true];exact ⟨_, List.getElem_mem hkD, by rw [hDk]; simpa using h⟩
   have HB : Q (¬ XR[k].1 = d → zae (D.take (k + 1)) d = false) := fun h => by
    rw [zax hkD, hasD_snoc, hno.out, hDk, decide_eq_false h]; rfl
   clear hno hDk hkD hq;generalize XR[k] = x at *;obtain ⟨dd, ⟨ax, cx⟩, l⟩ := x;simp only at d0 d1 HA HB
   generalize l.length = n2 at *;have hBn : Z w.heap.size w (wr.alloc (T #[E J dd, G ax n2 cx] 80)) := hbw.trans ((zg wr _).mono hsz);by_cases hd : dd = d
   ·have HF := zA (HA.out hd)
    subst hd;clear HA HB;go_wp2;go_ret;exact ⟨zgh HF.out.symm, hBn⟩
   ·have HF := zA (HB.out hd)
    have hd' : (dd == d) = false := by simpa using hd
    clear HA HB hd;go_wp2;go_roundw
    case rel => exact ⟨k + 1, by omega, by go_num, HF, hBn⟩
    case measure => simp [intOf]; omega
  ·have HF : Q (zae D d = false) := by
    have := hno.out;rwa [List.take_of_length_le (by have h1 := HN.out.n; have h2 := congrArg List.length HN.out.says; simp at h2; omega)] at this
   clear hno;go_wp2;go_ret;exact ⟨zgh HF.out.symm, hbw⟩
theorem zp4 (la ra da pa : Option Addr) (nl lc nr rc nd dc np pc : Nat) (s0 s1 s2 s3 d : Int) (XR : List XD) (D : List D2) (dn : List Int) (l : List P3) (w : World) (h : zfb w ra nr XR D) (hnd : nd = dn.length) (hdl : dn.length ≤ 9223372036854775807) (hdn : zk 1 zq w da dn)
  (hnp : np = l.length) (hok : OkP l) (hq : zai w pa l) (hw : zbm 2199023255552 (s0, s1, s2, s3)) :
  Calls Tryz.prog 102 #[.agg #[G la nl lc, E J s0, E J s1, E J s2, E J s3, G ra nr rc, G da nd dc], E J d, G pa np pc] w fun e w' => e = .returned (E J (zcx ((s0, s1, s2, s3), D, dn) d l)) ∧ Z w.heap.size w w' := by
 have HN : Q (zfb w ra nr XR D ∧ (nd = dn.length ∧ dn.length ≤ 9223372036854775807 ∧ zk 1 zq w da dn) ∧ (np = l.length ∧ OkP l ∧ zai w pa l) ∧ zbm 2199023255552 (s0, s1, s2, s3)) := ⟨h, ⟨hnd, hdl, hdn⟩, ⟨hnp, hok, hq⟩, hw⟩;have hnp4 : np ≤ 4 := by have := hok.1; omega
 clear h hnd hdl hdn hnp hok hq hw;have hb0 := zg w (T #[G la nl lc, E J s0, E J s1, E J s2, E J s3, G ra nr rc, G da nd dc] 77);have hh0 : Blk (w.alloc (T #[G la nl lc, E J s0, E J s1, E J s2, E J s3, G ra nr rc, G da nd dc] 77)) w.heap.size #[G la nl lc, E J s0, E J s1, E J s2, E J s3, G ra nr rc, G da nd dc] 77 := Blk.new _ _ _;go_enter Tryz.func102, Tryz.ntmps102
 go_wp2_with fail
 generalize w.alloc (T #[G la nl lc, E J s0, E J s1, E J s2, E J s3, G ra nr rc, G da nd dc] 77) = W at *;refine (zfq da dn dc nd d W HN.out.2.1.1 HN.out.2.1.2.1 (HN.out.2.1.2.2.below hb0)).mono ?_;rintro e w1 ⟨rfl, hb1⟩;have hB1 := hb0.trans (hb1.mono hb0.size);have hh1 := hh0.below hb1 hh0.lt;clear hb1 hb0 hh0;cases hz1 : inI dn d
 ·have q0 := hh1.cell 0
  have q1 := hh1.cell 1;have q2 := hh1.cell 2;have q3 := hh1.cell 3;have q4 := hh1.cell 4;have q5 := hh1.cell 5;have q6 := hh1.cell 6;have hql := hh1.lt;simp at q0 q1 q2 q3 q4 q5 q6
  have HZ1 := zA hz1;clear hz1;go_wp2_with fail
  refine (zh8 la ra da nl lc nr rc nd dc s0 s1 s2 s3 d XR D w1 (HN.out.1.below hB1)).mono ?_;rintro e w2 ⟨rfl, hb2⟩;have hB2 := hB1.trans (hb2.mono hB1.size);have hh2 := hh1.below hb2 hh1.lt;clear hb2 hh1 hB1 q0 q1 q2 q3 q4 q5 q6 hql;cases hz2 : zae D d
  ·have HZ2 := zA hz2
   clear hz2;go_wp2;go_loopw [18] (fun i w' => ∃ k : Nat, k ≤ np ∧ i = E J k ∧ Q (ze7 D (l.take k) = false) ∧ Z w2.heap.size w2 w') (fun i _ => np - (intOf i).toNat)
   case atStart => exact ⟨0, Nat.zero_le _, rfl, rfl, Below.refl _ _⟩
   case round =>
    obtain ⟨k, hk, rfl, hno, hbw⟩ := hrel;have hsz := hbw.size;have hBr := hB2.trans (hbw.mono hB2.size);have hhr := hh2.below hbw hh2.lt;have q0 := hhr.cell 0;have q1 := hhr.cell 1;have q2 := hhr.cell 2;have q3 := hhr.cell 3;have q4 := hhr.cell 4;have q5 := hhr.cell 5;have q6 := hhr.cell 6;have hql := hhr.lt;simp at q0 q1 q2 q3 q4 q5 q6
    by_cases hlt : k < np
    ·have hkl : k < l.length := by have := HN.out.2.2.1.1; omega
     rcases HN.out.2.2.1.2.2.below hBr with h0 | ⟨g, o, rfl, hg, hc⟩
     ·rw [h0] at hkl; simp at hkl
     obtain ⟨e0, e1, e2⟩ := hc k hkl
     have HS : Q (ze7 D (l.take (k + 1)) = decide (0 ≤ zdk D l[k].2.1) ∧ (0 ≤ zdk D l[k].2.1 → ze7 D l = true)) := by
      refine ⟨by rw [zax hkl, zp2, hno.out]; rfl, fun h => ?_⟩;unfold ze7
      rw [List.any_eq_true];exact ⟨_, List.getElem_mem hkl, by simpa using h⟩
     clear hc hno;generalize l[k] = p at *;obtain ⟨ph, pk, pn⟩ := p;simp only at e0 e1 e2 HS
     have hbA := zg wr (T #[E J ph, E J pk, E J pn] 90);have hBA := hBr.trans (hbA.mono hBr.size);have hBm := hbw.trans (hbA.mono hsz);clear hhr hbw;go_wp2_with fail
     refine (zpx la ra da nl lc nr rc nd dc s0 s1 s2 s3 pk XR D _ (HN.out.1.below hBA)).mono ?_;rintro e w3 ⟨rfl, hb3⟩;have hB3 := hBm.trans (hb3.mono hBm.size);have hB3w := hBA.trans (hb3.mono hBA.size);clear q0 q1 q2 q3 q4 q5 q6 hb3 hBA hbA e0 e1 e2 hBm;generalize zdk D pk = z at *;by_cases hzz : 0 ≤ z
     ·have HF : Q (zcx ((s0, s1, s2, s3), D, dn) d l = 12) := by
       show _ = _
       unfold zcx
       simp only
       rw [HZ1.out, if_neg (by simp), HZ2.out, if_neg (by simp), HS.out.2 hzz, if_pos rfl]
      clear HS;go_wp2;go_ret;exact ⟨zca HF.out.symm, hB3w⟩
     ·have HF : Q (ze7 D (l.take (k + 1)) = false) := by show _ = _; rw [HS.out.1]; simpa using hzz
      clear HS;go_wp2;go_roundw
      case rel => exact ⟨k + 1, by omega, by go_num, HF, hB3⟩
      case measure => simp [intOf]; omega
    ·have HF : Q (zcx ((s0, s1, s2, s3), D, dn) d l = zcq (s0, s1, s2, s3) l) := by
      show _ = _
      have := hno.out;rw [List.take_of_length_le (by have := HN.out.2.2.1.1; omega)] at this;unfold zcx
      simp only
      rw [HZ1.out, if_neg (by simp), HZ2.out, if_neg (by simp), this, if_neg (by simp)]
     clear hno hhr;go_wp2_with fail
     refine (zps s0 s1 s2 s3 pa l pc np wr HN.out.2.2.1.1 HN.out.2.2.1.2.1.1 (HN.out.2.2.1.2.2.below hBr) HN.out.2.2.1.2.1.2.1 HN.out.2.2.1.2.1.2.2 HN.out.2.2.2).mono ?_;rintro e w3 ⟨rfl, hb3⟩;have hB3w := hBr.trans (hb3.mono hBr.size);clear q0 q1 q2 q3 q4 q5 q6 hb3;go_wp2;go_ret;exact ⟨zca HF.out.symm, hB3w⟩
  ·have HF : Q (zcx ((s0, s1, s2, s3), D, dn) d l = 0) := by
    show _ = _
    unfold zcx
    simp only
    rw [HZ1.out, if_neg (by simp), hz2, if_pos rfl]
   clear hz2;go_wp2;go_ret;exact ⟨zca HF.out.symm, hB2⟩
 ·have HF : Q (zcx ((s0, s1, s2, s3), D, dn) d l = 10) := by
   show _ = _
   unfold zcx
   simp only
   rw [hz1, if_pos rfl]
  clear hz1;go_wp2;go_ret;exact ⟨zca HF.out.symm, hB1⟩
def Out (R : Nat → Prop) (a : Option Addr) (n : Nat) : Prop := n = 0 ∨ ∀ ad, a = some ad → ¬ R ad.block
theorem Out.zero (R : Nat → Prop) (a : Option Addr) : Out R a 0 := kaa rfl
theorem Out.none (R : Nat → Prop) (n : Nat) : Out R U n := Or.inr (fun _ h => by cases h)
def zaf (R : Nat → Prop) (w : World) (a : Option Addr) (l : List P3) : Prop := zai w a l ∧ Out R a l.length
theorem zk.keepR {α : Type} {size : Nat} {enc : α → List Value} {w w' : World} {a : Option Addr} {xs : List α} {R : Nat → Prop} (h : zk size enc w a xs) (ho : Out R a xs.length) (hk : zh R w w') : zk size enc w' a xs := by
 rcases ho with h0 | ho
 ·exact kaa (List.eq_nil_of_length_eq_zero h0)
 ·exact h.keep hk ho
theorem zaf.keep {R : Nat → Prop} {w w' : World} {a : Option Addr} {l : List P3} (h : zaf R w a l) (hk : zh R w w') : zaf R w' a l := by
 refine ⟨?_, h.2⟩;rcases h.1 with h0 | ⟨b, o, rfl, hlt, hc⟩
 ·exact kaa h0
 ·rcases h.2 with h0 | ho
  ·exact kaa (List.eq_nil_of_length_eq_zero h0)
  ·refine Or.inr ⟨b, o, rfl, Nat.lt_of_lt_of_le hlt hk.size, fun i hi => ?_⟩
   obtain ⟨h1, h2, h3⟩ := hc i hi;have hb : ¬ R b := ho _ rfl;exact ⟨(hk.cell hlt hb).trans h1, (hk.cell hlt hb).trans h2, (hk.cell hlt hb).trans h3⟩
theorem zdi {R : Nat → Prop} {w w' : World} (hb : Z w.heap.size w w') : zh R w w' := zh.ofBelow hb (fun k h1 h2 => by omega)
theorem zaf.below {R : Nat → Prop} {w w' : World} {a : Option Addr} {l : List P3} (h : zaf R w a l) (hb : Z w.heap.size w w') : zaf R w' a l := h.keep (zdi hb)
theorem zaf.nil (R : Nat → Prop) (w : World) (a : Option Addr) : zaf R w a [] := ⟨kaa rfl, kaa rfl⟩
theorem zk.out {α : Type} {size : Nat} {enc : α → List Value} {w : World} {a : Option Addr} {xs : List α} {R R' : Nat → Prop} (h : zk size enc w a xs) (ho : Out R a xs.length) (hR : ∀ b, R' b → R b ∨ w.heap.size ≤ b) : Out R' a xs.length := by
 rcases h with rfl | ⟨b, o, rfl, hlt, hc⟩
 ·exact kaa rfl
 ·rcases ho with h0 | ho
  ·exact kaa h0
  ·refine Or.inr (fun ad had hr => ?_)
   cases had;rcases hR _ hr with h | h
   ·exact ho _ rfl h
   ·have h' : w.heap.size ≤ b := h
    omega
theorem zaf.wide {R R' : Nat → Prop} {w : World} {a : Option Addr} {l : List P3} (h : zaf R w a l) (hR : ∀ b, R' b → R b ∨ w.heap.size ≤ b) : zaf R' w a l :=
 ⟨h.1, zk.out (zk9 h.1) h.2 hR⟩
theorem zai.outR {w : World} {a : Option Addr} {l : List P3} (h : zai w a l) {R : Nat → Prop} (hR : ∀ b, R b → w.heap.size ≤ b) : zaf R w a l :=
 zaf.wide (R := fun _ => False) ⟨h, Or.inr (fun _ _ h => h)⟩ (fun b hb => Or.inr (hR b hb))
theorem zd.outR {α : Type} {e : TypeId} {size : Nat} {enc : α → List Value} {w : World} {base : Nat} {a : Option Addr} {n cap : Nat} {xs : List α} (h : zd e size enc w base (G a n cap) xs) {R : Nat → Prop} (hR : ∀ b, R b → b < base) (m : Nat) : Out R a m := by
 rcases h.2 with ⟨hv, h0⟩ | ⟨g, cap, cur, hv, hg, hh, jV, hmx, hsz, qk⟩
 ·cases hv; exact Out.none _ _
 ·cases hv
  refine Or.inr (fun ad had hr => ?_);cases had;have h1 : g < base := hR _ hr;omega
structure zdv (R : Nat → Prop) (w : World) (la : Option Addr) (nl : Nat) (Y : List XL) (ra : Option Addr) (nr : Nat) (XR : List XD) (da : Option Addr) (nd : Nat) (L : List R3) (h : H3) : Prop where
 ln : nl = Y.length
 log : zk 3 zak w la Y
 lout : Out R la Y.length
 says : Y.map zf = L
 parts : ∀ y ∈ Y, zaf R w y.2.2.1.1 y.2.2.2
 rn : nr = XR.length
 rdy : zk 2 zcz w ra XR
 rout : Out R ra XR.length
 rsays : XR.map zaz = h.2.1
 rparts : ∀ x ∈ XR, zaf R w x.2.1.1 x.2.2
 dn : nd = h.2.2.length
 done : zk 1 zq w da h.2.2
 dout : Out R da h.2.2.length
theorem zdv.keep {R : Nat → Prop} {w w' : World} {la : Option Addr} {nl : Nat} {Y : List XL} {ra : Option Addr} {nr : Nat} {XR : List XD} {da : Option Addr} {nd : Nat} {L : List R3} {h : H3} (H : zdv R w la nl Y ra nr XR da nd L h) (hk : zh R w w') : zdv R w' la nl Y ra nr XR da nd L h :=
 ⟨H.ln, H.log.keepR H.lout hk, H.lout, H.says, fun y hy => (H.parts y hy).keep hk, H.rn, H.rdy.keepR H.rout hk, H.rout, H.rsays, fun x hx => (H.rparts x hx).keep hk, H.dn, H.done.keepR H.dout hk, H.dout⟩
theorem zdv.below {R : Nat → Prop} {w w' : World} {la : Option Addr} {nl : Nat} {Y : List XL} {ra : Option Addr} {nr : Nat} {XR : List XD} {da : Option Addr} {nd : Nat} {L : List R3} {h : H3} (H : zdv R w la nl Y ra nr XR da nd L h) (hb : Z w.heap.size w w') : zdv R w' la nl Y ra nr XR da nd L h := H.keep (zdi hb)
theorem zdv.wide {R R' : Nat → Prop} {w : World} {la : Option Addr} {nl : Nat} {Y : List XL} {ra : Option Addr} {nr : Nat} {XR : List XD} {da : Option Addr} {nd : Nat} {L : List R3} {h : H3} (H : zdv R w la nl Y ra nr XR da nd L h) (hR : ∀ b, R' b → R b ∨ w.heap.size ≤ b) : zdv R' w la nl Y ra nr XR da nd L h :=
 ⟨H.ln, H.log, H.log.out H.lout hR, H.says, fun y hy => (H.parts y hy).wide hR, H.rn, H.rdy, H.rdy.out H.rout hR, H.rsays, fun x hx => (H.rparts x hx).wide hR, H.dn, H.done, H.done.out H.dout hR⟩
theorem zdv.rdyAt {R : Nat → Prop} {w : World} {la : Option Addr} {nl : Nat} {Y : List XL} {ra : Option Addr} {nr : Nat} {XR : List XD} {da : Option Addr} {nd : Nat} {L : List R3} {h : H3} (H : zdv R w la nl Y ra nr XR da nd L h) {k : Nat} (hi : zev k h) (hk : k ≤ 9223372036854775807) : zfb w ra nr XR h.2.1 := by
 refine ⟨H.rn, ?_, ?_, ⟨H.rdy, fun x hx => (H.rparts x hx).1⟩, H.rsays⟩
 ·have h1 := hi.few
  rw [← H.rsays, List.length_map] at h1;omega
 ·intro x hx
  have h1 := (hi.ok (zaz x) (by rw [← H.rsays]; exact List.mem_map.2 ⟨x, hx, rfl⟩)).1;have h2 : x.2.2.length ≤ 4 := h1;omega
def zbh (R : Nat → Prop) (w : World) (v : Value) (L : List R3) (h : H3) : Prop :=
 ∃ (la : Option Addr) (nl lc : Nat) (Y : List XL) (ra : Option Addr) (nr rc : Nat) (XR : List XD) (da : Option Addr) (nd dc : Nat),
  v = .agg #[G la nl lc, E J h.1.1, E J h.1.2.1, E J h.1.2.2.1, E J h.1.2.2.2, G ra nr rc, G da nd dc] ∧ zdv R w la nl Y ra nr XR da nd L h
theorem zbh.keep {R : Nat → Prop} {w w' : World} {v : Value} {L : List R3} {h : H3} (H : zbh R w v L h) (hk : zh R w w') : zbh R w' v L h := by
 obtain ⟨la, nl, lc, Y, ra, nr, rc, XR, da, nd, dc, hv, hf⟩ := H;exact ⟨la, nl, lc, Y, ra, nr, rc, XR, da, nd, dc, hv, hf.keep hk⟩
theorem zbh.below {R : Nat → Prop} {w w' : World} {v : Value} {L : List R3} {h : H3} (H : zbh R w v L h) (hb : Z w.heap.size w w') : zbh R w' v L h := H.keep (zdi hb)
theorem zbh.wide {R R' : Nat → Prop} {w : World} {v : Value} {L : List R3} {h : H3} (H : zbh R w v L h) (hR : ∀ b, R' b → R b ∨ w.heap.size ≤ b) : zbh R' w v L h := by
 obtain ⟨la, nl, lc, Y, ra, nr, rc, XR, da, nd, dc, hv, hf⟩ := H;exact ⟨la, nl, lc, Y, ra, nr, rc, XR, da, nd, dc, hv, hf.wide hR⟩
theorem zo1 (R : Nat → Prop) (w : World) : zbh R w (.agg #[G U 0 0, E J 0, E J 0, E J 0, E J 0, G U 0 0, G U 0 0]) [] ((0, 0, 0, 0), [], []) :=
 ⟨none, 0, 0, [], none, 0, 0, [], none, 0, 0, rfl, rfl, kaa rfl, kaa rfl, rfl, (fun y hy => by cases hy), rfl, kaa rfl, kaa rfl, rfl, (fun y hy => by cases hy), rfl, kaa rfl, kaa rfl⟩
theorem zp6 (R : Nat → Prop) (a : Option Addr) (X : List XL) (cap n : Nat) (w : World) (hR : ∀ b, R b → b < w.heap.size) (hn : n = X.length) (hc : zdb (X.map zf)) (j8 : zk 3 zak w a X) (hout : Out R a X.length) (hp : ∀ x ∈ X, zaf R w x.2.2.1.1 x.2.2.2) :
  Calls Tryz.prog 127 #[G a n cap] w fun e w' => ∃ (h : H3) (ra : Option Addr) (nr rc : Nat) (XR : List XD) (da : Option Addr) (nd dc : Nat), h = ze (X.map zf) ∧
   e = .returned (.agg #[G a n cap, E J h.1.1, E J h.1.2.1, E J h.1.2.2.1, E J h.1.2.2.2, G ra nr rc, G da nd dc]) ∧ zdv R w' a n X ra nr XR da nd (X.map zf) h ∧ Z w.heap.size w w' := by
 refine (zok (zaf R w) a X cap n w hn hc ⟨j8, fun x hx => (hp x hx).1⟩ (fun _ _ h => h.1) hp).mono ?_;rintro e w' ⟨v, rfl, ⟨ra, nr, rc, XR, da, nd, dc, rfl, h1, h2, h3, h4⟩, hb⟩;have k1 := h1.at zd1;have k4 := h4.at zal;exact ⟨_, ra, nr, rc, XR, da, nd, dc, rfl, rfl, ⟨hn, j8.below hb, hout, rfl, fun x hx => (hp x hx).below hb, k1.2.1, k1.1, h1.outR hR _, h3, fun x hx => (h2 x hx).below hb, k4.2.1, k4.1, h4.outR hR _⟩, hb⟩
theorem zaj.outR {α : Type} {e : TypeId} {size : Nat} {enc : α → List Value} {w : World} {B : Nat} {a : Option Addr} {n cap : Nat} {xs : List α} (h : zaj e size enc w B (G a n cap) xs) {R : Nat → Prop} (hR : ∀ b, R b → b < B) : Out R a xs.length := by
 rcases h with h | ⟨h0, _⟩
 ·exact h.outR hR _
 ·exact kaa (by rw [h0]; rfl)
theorem zaj.mono {α : Type} {e : TypeId} {size : Nat} {enc : α → List Value} {w : World} {B : Nat} {v : Value} {xs : List α} (h : zaj e size enc w B v xs) {B' : Nat} (hB : B' ≤ B) : zaj e size enc w B' v xs := by
 rcases h with h | h
 ·exact kaa (zd.mono h hB)
 ·exact Or.inr h
theorem zfn (R : Nat → Prop) {N M : Nat} (hR : ∀ b, R b → b < N) (hM : N ≤ M) : ∃ R' : Nat → Prop, (∀ b, R b → R' b) ∧ R' M ∧ (∀ b, R' b → R b ∨ N ≤ b) ∧ (∀ b, R' b → b < M + 1) ∧ (∀ b, R' b → R b ∨ b = M) :=
 ⟨fun b => R b ∨ b = M, fun b h => kaa h, Or.inr rfl, fun b h => by rcases h with h | h; exact kaa h; exact Or.inr (by omega), fun b h => by rcases h with h | h; have := hR b h; omega; omega, fun b h => h⟩
theorem zhk (w : World) (o o' o'' : Obj) {cs : Array Value} {t : TypeId} (h : o'' = T cs t) : Blk (((w.alloc o).alloc o').alloc o'') (w.heap.size + 1 + 1) cs t := by
 subst h;have := Blk.new ((w.alloc o).alloc o') cs t
 simpa using this
theorem zhd (w : World) (o o' o'' : Obj) : Z w.heap.size w (((w.alloc o).alloc o').alloc o'') := (za4 w o o').alloc (by simp; omega) _
theorem zix (R : Nat → Prop) (la ra da : Option Addr) (nl lc nr rc nd dc : Nat) (s0 s1 s2 s3 : Int) (Y : List XL) (kd dd : Int) (ax : Option Addr) (nx cx : Nat) (l : List P3) (w : World) (hR : ∀ b, R b → b < w.heap.size) (hn : nl = Y.length) (hnx : nx = l.length) (hc : zdb (Y.map zf ++ [(kd, dd, l)]))
  (j8 : zk 3 zak w la Y) (hp0 : ∀ y ∈ Y, zaf R w y.2.2.1.1 y.2.2.2) (hq0 : zaf R w ax l) :
  Calls Tryz.prog 104 #[.agg #[G la nl lc, E J s0, E J s1, E J s2, E J s3, G ra nr rc, G da nd dc], .agg #[E J kd, E J dd, G ax nx cx]] w fun e w' => ∃ v, e = .returned v ∧ zbh R w' v (Y.map zf ++ [(kd, dd, l)]) (ze (Y.map zf ++ [(kd, dd, l)])) ∧ Z w.heap.size w w' := by
 obtain ⟨R', g1, g2, g3, g4, -⟩ := zfn R hR (M := w.heap.size + 1 + 1) (by omega);have hsz : (Y.length + 1) * 40 ≤ 140737488355328 := by have := hc.size; simpa using this
 have hmap : (Y ++ [((kd, dd, (ax, cx), l) : XL)]).map zf = Y.map zf ++ [(kd, dd, l)] := by rw [List.map_append]; rfl
 have hpx : ∀ y ∈ Y ++ [((kd, dd, (ax, cx), l) : XL)], zaf R' w y.2.2.1.1 y.2.2.2 := fun y hy => by
  rcases List.mem_append.1 hy with hy | hy
  ·exact (hp0 y hy).wide g3
  ·rw [List.mem_singleton.1 hy]; exact hq0.wide g3
 have HCH0 := fun (a' : Option Addr) (n' c' : Nat) (w' : World) (h1 : n' = (Y ++ [((kd, dd, (ax, cx), l) : XL)]).length) (h2 : zk 3 zak w' a' (Y ++ [(kd, dd, (ax, cx), l)])) (h3 : Out R' a' (Y ++ [((kd, dd, (ax, cx), l) : XL)]).length) (h4 : Z w.heap.size w w') (h5 : w.heap.size + 1 + 1 + 1 ≤ w'.heap.size) =>
  zp6 R' a' (Y ++ [(kd, dd, (ax, cx), l)]) c' n' w' (fun b hb => by have := g4 b hb; omega) h1 (by rw [hmap]; exact hc) h2 h3 (fun y hy => (hpx y hy).below h4)
 rw [hmap] at HCH0;generalize hhb : ze (Y.map zf ++ [(kd, dd, l)]) = hx at *;obtain ⟨⟨t0, t1, t2, t3⟩, D, dn⟩ := hx
 have HCH : ∀ (a' : Option Addr) (n' c' : Nat) (w' : World), n' = (Y ++ [((kd, dd, (ax, cx), l) : XL)]).length → zk 3 zak w' a' (Y ++ [(kd, dd, (ax, cx), l)]) → Out R' a' (Y ++ [((kd, dd, (ax, cx), l) : XL)]).length → Z w.heap.size w w' → w.heap.size + 1 + 1 + 1 ≤ w'.heap.size →
   Calls Tryz.prog 127 #[G a' n' c'] w' fun e w'' => ∃ (ra' : Option Addr) (nr' rc' : Nat) (XR' : List XD) (da' : Option Addr) (nd' dc' : Nat), e = .returned (.agg #[G a' n' c', E J t0, E J t1, E J t2, E J t3, G ra' nr' rc', G da' nd' dc']) ∧ Q (zdv R' w'' a' n' (Y ++ [(kd, dd, (ax, cx), l)]) ra' nr' XR' da' nd' (Y.map zf ++ [(kd, dd, l)]) ((t0, t1, t2, t3), D, dn)) ∧ Z w'.heap.size w' w'' := by
  intro a' n' c' w' h1 h2 h3 h4 h5;refine (HCH0 a' n' c' w' h1 h2 h3 h4 h5).mono ?_;rintro e w'' ⟨h, ra', nr', rc', XR', da', nd', dc', rfl, rfl, hF, hb⟩;exact ⟨ra', nr', rc', XR', da', nd', dc', rfl, hF, hb⟩
 clear HCH0;have HN := zF hn hnx.symm j8 g4 g2 g1;clear hn hnx hc j8 hp0 hq0 hmap hpx hhb g1 g2 g3 g4 hR;go_enter Tryz.func104, Tryz.ntmps104
 go_wp2_with fail
 have hbX := zhd w (T #[G la nl lc, E J s0, E J s1, E J s2, E J s3, G ra nr rc, G da nd dc] 77) (T #[E J kd, E J dd, G ax nx cx] 40) (T #[G U 0 0, E J 0, E J 0, E J 0, E J 0, G U 0 0, G U 0 0] 77);have hh : Blk (((w.alloc (T #[G la nl lc, E J s0, E J s1, E J s2, E J s3, G ra nr rc, G da nd dc] 77)).alloc (T #[E J kd, E J dd, G ax nx cx] 40)).alloc (T #[G U 0 0, E J 0, E J 0, E J 0, E J 0, G U 0 0, G U 0 0] 77)) w.heap.size #[G la nl lc, E J s0, E J s1, E J s2, E J s3, G ra nr rc, G da nd dc] 77 := ((Blk.new w _ _).alloc _).alloc _;have hr : Blk (((w.alloc (T #[G la nl lc, E J s0, E J s1, E J s2, E J s3, G ra nr rc, G da nd dc] 77)).alloc (T #[E J kd, E J dd, G ax nx cx] 40)).alloc (T #[G U 0 0, E J 0, E J 0, E J 0, E J 0, G U 0 0, G U 0 0] 77)) (w.heap.size + 1) #[E J kd, E J dd, G ax nx cx] 40 := Blk.alloc (zap _ _ _) _;have hz : Blk (((w.alloc (T #[G la nl lc, E J s0, E J s1, E J s2, E J s3, G ra nr rc, G da nd dc] 77)).alloc (T #[E J kd, E J dd, G ax nx cx] 40)).alloc (T #[G U 0 0, E J 0, E J 0, E J 0, E J 0, G U 0 0, G U 0 0] 77)) (w.heap.size + 1 + 1) #[G U 0 0, E J 0, E J 0, E J 0, E J 0, G U 0 0, G U 0 0] 77 := zhk _ _ _ _ rfl;have hWs : (((w.alloc (T #[G la nl lc, E J s0, E J s1, E J s2, E J s3, G ra nr rc, G da nd dc] 77)).alloc (T #[E J kd, E J dd, G ax nx cx] 40)).alloc (T #[G U 0 0, E J 0, E J 0, E J 0, E J 0, G U 0 0, G U 0 0] 77)).heap.size = w.heap.size + 1 + 1 + 1 := by simp
 generalize (((w.alloc (T #[G la nl lc, E J s0, E J s1, E J s2, E J s3, G ra nr rc, G da nd dc] 77)).alloc (T #[E J kd, E J dd, G ax nx cx] 40)).alloc (T #[G U 0 0, E J 0, E J 0, E J 0, E J 0, G U 0 0, G U 0 0] 77)) = W at *;have HB := zB hbX hWs
 have HK : Q (∀ w', Z W.heap.size W w' → (w'.cell? ⟨w.heap.size, 0, U⟩ = some (G la nl lc) ∧ w'.cell? ⟨w.heap.size + 1, 0, U⟩ = some (E J kd) ∧ w'.cell? ⟨w.heap.size + 1, 1, U⟩ = some (E J dd) ∧ w'.cell? ⟨w.heap.size + 1, 2, U⟩ = some (G ax nx cx))) := fun w' hb =>
  ⟨(hh.below hb hh.lt).cell 0, (hr.below hb hr.lt).cell 0, (hr.below hb hr.lt).cell 1, (hr.below hb hr.lt).cell 2⟩
 have HK2 : Q (∀ w', Z (w.heap.size + 1 + 1) W w' → (w'.cell? ⟨w.heap.size, 0, U⟩ = some (G la nl lc) ∧ w'.cell? ⟨w.heap.size + 1, 0, U⟩ = some (E J kd) ∧ w'.cell? ⟨w.heap.size + 1, 1, U⟩ = some (E J dd) ∧ w'.cell? ⟨w.heap.size + 1, 2, U⟩ = some (G ax nx cx))) := fun w' hb =>
  ⟨(hh.below hb (by omega)).cell 0, (hr.below hb (by omega)).cell 0, (hr.below hb (by omega)).cell 1, (hr.below hb (by omega)).cell 2⟩
 have HZ : Q (∀ w', Z W.heap.size W w' → Blk w' (w.heap.size + 1 + 1) #[G U 0 0, E J 0, E J 0, E J 0, E J 0, G U 0 0, G U 0 0] 77) := fun w' hb => hz.below hb hz.lt
 have HR : Q (∀ w', Z W.heap.size W w' → zk 3 zak w' la Y ∧ Z w.heap.size w w' ∧ w.heap.size + 1 + 1 + 1 ≤ w'.heap.size) := fun w' hb => ⟨(HN.out.2.2.1.below hbX).below hb, hbX.trans (hb.mono hbX.size), by have := hb.size; omega⟩
 have hX0 : Z W.heap.size W W.drew := (Below.refl _ _).drew;have hlw := hz.lt;clear hh hr hz hbX hWs
 go_region_held3 (fun w' => (w'.cell? ⟨w.heap.size, 0, U⟩ = some (G la nl lc) ∧ w'.cell? ⟨w.heap.size + 1, 0, U⟩ = some (E J kd) ∧ w'.cell? ⟨w.heap.size + 1, 1, U⟩ = some (E J dd) ∧ w'.cell? ⟨w.heap.size + 1, 2, U⟩ = some (G ax nx cx))) (
  first
  | (with_reducible exact HK.out _ hH)
  | (with_reducible exact HK2.out _ hS7)
  | exact HK.out _ h33
  | exact HK.out _ h30
  | exact HK.out _ (h30.alloc h30.size _)
  | exact HK.out _ hX0
  | exact HK.out _ (hX0.alloc hX0.size _)
  | exact HK.out _ ((hX0.alloc hX0.size _).alloc (by first | omega | (simp; omega) | simp) _)
  | exact HK.out _ (Below.refl _ _)) (
  first
  | (have hh33 := h33; go_at_call 127; clear hh33; refine (HCH a33 n33 c33 _ HO33.out.2.1 HO33.out.1 HO33.out.2.2 (HR.out _ h33).2.1 (HR.out _ h33).2.2).mono ?_; rintro e wH ⟨ra', nr', rc', XR', da', nd', dc', rfl, HHH, hbH⟩; have hH : Z W.heap.size W wH := h33.trans (hbH.mono h33.size); have hS7 : Z (w.heap.size + 1 + 1) W (((((((wH.setCell ⟨w.heap.size + 1 + 1, 0, U⟩ (G a33 n33 c33)).setCell ⟨w.heap.size + 1 + 1, 1, U⟩ (E J t0)).setCell ⟨w.heap.size + 1 + 1, 2, U⟩ (E J t1)).setCell ⟨w.heap.size + 1 + 1, 3, U⟩ (E J t2)).setCell ⟨w.heap.size + 1 + 1, 4, U⟩ (E J t3)).setCell ⟨w.heap.size + 1 + 1, 5, U⟩ (G ra' nr' rc')).setCell ⟨w.heap.size + 1 + 1, 6, U⟩ (G da' nd' dc')) := (((((((hH.mono (Nat.le_of_lt hlw)).setCell (kab _) _).setCell (kab _) _).setCell (kab _) _).setCell (kab _) _).setCell (kab _) _).setCell (kab _) _).setCell (kab _) _; have hzH := HZ.out _ hH; have j0 := hzH.cell 0; have j1 := hzH.cell 1; have j2 := hzH.cell 2; have j3 := hzH.cell 3; have j4 := hzH.cell 4; have j5 := hzH.cell 5; have j6 := hzH.cell 6; have i0 := hzH.free 0; have i1 := hzH.free 1; have i2 := hzH.free 2; have i3 := hzH.free 3; have i4 := hzH.free 4; have i5 := hzH.free 5; have i6 := hzH.free 6; have hzl := hzH.lt; (simp at j0 j1 j2 j3 j4 j5 j6); clear hzH)
  | (refine zb3 za7 zcu Tryz.underlying26 zcl rfl (by decide) _ (by first | rfl | simp [Region.wanted, yielded]) (.tmp 8) (.tmp 10) rfl W.heap.size (G a30 n30 c30) Y rfl (by first | exact HO30.out | exact HO30.out.below (zg w30 _)) _ 1 1 [(kd, dd, (ax, cx), l)] rfl rfl (by first | exact zk.one (Blk.new _ _ _) (by simp [zak, HN.out.2.1]) | exact zk.one (Blk.below (Blk.new _ _ _) jY (by first | omega | (simp; omega) | simp)) (by simp [zak, HN.out.2.1]) | exact zk.one (Blk.below ((Blk.new _ _ _).alloc _) jY (by first | omega | (simp; omega) | simp)) (by simp [zak, HN.out.2.1]) | exact zk.one (Blk.below (zap _ _ _) jY (by first | omega | (simp; omega) | simp)) (by simp [zak, HN.out.2.1]) | exact zk.one (Blk.below (Blk.drew ((Blk.new _ _ _).alloc _)) jY (by first | omega | (simp; omega) | simp)) (by simp [zak, HN.out.2.1]) | exact zk.one (Blk.below (Blk.drew (zap _ _ _)) jY (by first | omega | (simp; omega) | simp)) (by simp [zak, HN.out.2.1])) (by unfold maxLen; simp; omega) (by simp; omega) (by first | omega | (simp; omega) | simp) ?_; intro a33 n33 c33 w33 qw hn33 j9; have h33 : Z W.heap.size W w33 := (by first | exact h30.trans j9 | exact (h30.alloc h30.size _).trans j9); have HO33 : Q (zk 3 zak w33 a33 (Y ++ [(kd, dd, (ax, cx), l)]) ∧ n33 = (Y ++ [((kd, dd, (ax, cx), l) : XL)]).length ∧ Out R' a33 (Y ++ [((kd, dd, (ax, cx), l) : XL)]).length) := ⟨(qw.at za7).1, (qw.at za7).2.1, qw.outR (fun b hb => by rw [HB.out.2]; exact HN.out.2.2.2.1 b hb)⟩; clear qw hn33 j9)
  | (refine zb3 za7 zcu Tryz.underlying26 zcl rfl (by decide) _ (by first | rfl | simp [Region.wanted, yielded]) (.tmp 5) (.tmp 7) rfl _ _ [] rfl (by first | exact zaj.made (Blk.new _ _ _) _ | exact zaj.made ((Blk.new _ _ _).alloc _) _ | exact zaj.made (zap _ _ _) _) la nl lc Y rfl HN.out.1 (HR.out _ (by first | exact hX0.alloc hX0.size _ | exact (hX0.alloc hX0.size _).alloc (by first | omega | (simp; omega) | simp) _)).1 (by unfold maxLen; simp; omega) (by simp; omega) (kab _) ?_; intro a30 n30 c30 w30 qJ hn30 jY; have h30 : Z W.heap.size W w30 := (by first | exact (hX0.alloc hX0.size _).trans (jY.mono (by first | omega | (simp; omega) | simp)) | exact ((hX0.alloc hX0.size _).alloc (by first | omega | (simp; omega) | simp) _).trans (jY.mono (by first | omega | (simp; omega) | simp))); have h30s := h30.size; have h30b := jY.size; (try simp at h30b); have HO30 : Q (zaj 40 3 zak w30 W.heap.size (G a30 n30 c30) Y) := qJ.mono (by first | omega | (simp; omega) | simp); clear qJ hn30))
 all_goals
  obtain ⟨hW, -⟩ := fill7 (HZ.out _ hH) (G a33 n33 c33) (E J t0) (E J t1) (E J t2) (E J t3) (G ra' nr' rc') (G da' nd' dc');have hBW := HB.out.1.trans (hS7.mono (by omega));have hK7 : zh R' wH (((((((wH.setCell ⟨w.heap.size + 1 + 1, 0, U⟩ (G a33 n33 c33)).setCell ⟨w.heap.size + 1 + 1, 1, U⟩ (E J t0)).setCell ⟨w.heap.size + 1 + 1, 2, U⟩ (E J t1)).setCell ⟨w.heap.size + 1 + 1, 3, U⟩ (E J t2)).setCell ⟨w.heap.size + 1 + 1, 4, U⟩ (E J t3)).setCell ⟨w.heap.size + 1 + 1, 5, U⟩ (G ra' nr' rc')).setCell ⟨w.heap.size + 1 + 1, 6, U⟩ (G da' nd' dc')) := (((((((zh.refl R' wH).setCell HN.out.2.2.2.2.1 _).setCell HN.out.2.2.2.2.1 _).setCell HN.out.2.2.2.2.1 _).setCell HN.out.2.2.2.2.1 _).setCell HN.out.2.2.2.2.1 _).setCell HN.out.2.2.2.2.1 _).setCell HN.out.2.2.2.2.1 _;have HF : Q (zbh R (((((((wH.setCell ⟨w.heap.size + 1 + 1, 0, U⟩ (G a33 n33 c33)).setCell ⟨w.heap.size + 1 + 1, 1, U⟩ (E J t0)).setCell ⟨w.heap.size + 1 + 1, 2, U⟩ (E J t1)).setCell ⟨w.heap.size + 1 + 1, 3, U⟩ (E J t2)).setCell ⟨w.heap.size + 1 + 1, 4, U⟩ (E J t3)).setCell ⟨w.heap.size + 1 + 1, 5, U⟩ (G ra' nr' rc')).setCell ⟨w.heap.size + 1 + 1, 6, U⟩ (G da' nd' dc')) (.agg #[G a33 n33 c33, E J t0, E J t1, E J t2, E J t3, G ra' nr' rc', G da' nd' dc']) (Y.map zf ++ [(kd, dd, l)]) ((t0, t1, t2, t3), D, dn) ∧ Z w.heap.size w (((((((wH.setCell ⟨w.heap.size + 1 + 1, 0, U⟩ (G a33 n33 c33)).setCell ⟨w.heap.size + 1 + 1, 1, U⟩ (E J t0)).setCell ⟨w.heap.size + 1 + 1, 2, U⟩ (E J t1)).setCell ⟨w.heap.size + 1 + 1, 3, U⟩ (E J t2)).setCell ⟨w.heap.size + 1 + 1, 4, U⟩ (E J t3)).setCell ⟨w.heap.size + 1 + 1, 5, U⟩ (G ra' nr' rc')).setCell ⟨w.heap.size + 1 + 1, 6, U⟩ (G da' nd' dc'))) := ⟨⟨_, _, _, _, _, _, _, _, _, _, _, rfl, (HHH.out.keep hK7).wide (fun b hb => kaa (HN.out.2.2.2.2.2 b hb))⟩, hBW⟩
  have e0 := hW.cell 0;have e1 := hW.cell 1;have e2 := hW.cell 2;have e3 := hW.cell 3;have e4 := hW.cell 4;have e5 := hW.cell 5;have e6 := hW.cell 6;simp only [List.getElem?_toArray, List.getElem?_cons_zero, List.getElem?_cons_succ] at e0 e1 e2 e3 e4 e5 e6
  clear i0 i1 i2 i3 i4 i5 i6 j0 j1 j2 j3 j4 j5 j6 hW hBW hK7 hS7 HK HK2 HZ HR HCH;generalize (((((((wH.setCell ⟨w.heap.size + 1 + 1, 0, U⟩ (G a33 n33 c33)).setCell ⟨w.heap.size + 1 + 1, 1, U⟩ (E J t0)).setCell ⟨w.heap.size + 1 + 1, 2, U⟩ (E J t1)).setCell ⟨w.heap.size + 1 + 1, 3, U⟩ (E J t2)).setCell ⟨w.heap.size + 1 + 1, 4, U⟩ (E J t3)).setCell ⟨w.heap.size + 1 + 1, 5, U⟩ (G ra' nr' rc')).setCell ⟨w.heap.size + 1 + 1, 6, U⟩ (G da' nd' dc')) = jz at *;go_wp2_with fail
  refine bodyPost_ret (v := .agg #[G a33 n33 c33, E J t0, E J t1, E J t2, E J t3, G ra' nr' rc', G da' nd' dc']) ?_ rfl ⟨_, rfl, HF.out.1, HF.out.2⟩;simp [results, Tryz.results104, go_sem, e0, e1, e2, e3, e4, e5, e6]
abbrev XM := Int × Int × Int × Hd × List P3
def zcf (x : XM) : List Value := [E J x.1, E J x.2.1, E J x.2.2.1, G x.2.2.2.1.1 x.2.2.2.2.length x.2.2.2.1.2]
theorem zby (x : XM) : (zcf x).length = 4 := rfl
theorem oneM (x : XM) : ∀ u ∈ zcf x, u.oneCell' = true := by intro u hu; simp [zcf] at hu; rcases hu with rfl | rfl | rfl | rfl <;> rfl
def zde (x : XM) : Q4 := (x.1, x.2.1, x.2.2.1, x.2.2.2.2)
structure zek (R : Nat → Prop) (w : World) (a : Option Addr) (n : Nat) (X : List XM) (ms : List Q4) : Prop where
 n : n = X.length
 row : zk 4 zcf w a X
 out : Out R a X.length
 says : X.map zde = ms
 parts : ∀ x ∈ X, zaf R w x.2.2.2.1.1 x.2.2.2.2
theorem zek.keep {R : Nat → Prop} {w w' : World} {a : Option Addr} {n : Nat} {X : List XM} {ms : List Q4} (H : zek R w a n X ms) (hk : zh R w w') : zek R w' a n X ms :=
 ⟨H.n, H.row.keepR H.out hk, H.out, H.says, fun x hx => (H.parts x hx).keep hk⟩
theorem zek.below {R : Nat → Prop} {w w' : World} {a : Option Addr} {n : Nat} {X : List XM} {ms : List Q4} (H : zek R w a n X ms) (hb : Z w.heap.size w w') : zek R w' a n X ms := H.keep (zdi hb)
theorem zek.wide {R R' : Nat → Prop} {w : World} {a : Option Addr} {n : Nat} {X : List XM} {ms : List Q4} (H : zek R w a n X ms) (hR : ∀ b, R' b → R b ∨ w.heap.size ≤ b) : zek R' w a n X ms :=
 ⟨H.n, H.row, H.row.out H.out hR, H.says, fun x hx => (H.parts x hx).wide hR⟩
def zat (R : Nat → Prop) (w : World) (v : Value) (ms : List Q4) : Prop := ∃ a n c X, v = G a n c ∧ zek R w a n X ms
theorem zat.nil (R : Nat → Prop) (w : World) : zat R w (G U 0 0) [] := ⟨none, 0, 0, [], rfl, rfl, kaa rfl, kaa rfl, rfl, (fun x hx => by cases hx)⟩
theorem zat.one {R : Nat → Prop} {w : World} {B : Nat} (k d h : Int) (hb : Blk w B #[E J k, E J d, E J h, G U 0 0] 25) (hR : ¬ R B) (c : Nat) : zat R w (G (some ⟨B, 0, U⟩) 1 c) [(k, d, h, [])] :=
 ⟨_, _, _, [(k, d, h, (none, 0), [])], rfl, rfl, zk.one hb rfl, Or.inr (fun ad had hr => by cases had; exact hR hr), rfl, fun x hx => by rw [List.mem_singleton.1 hx]; exact zaf.nil _ _ _⟩
structure zd4 (R : Nat → Prop) (w wx : World) (N : Nat) (k d hs : Int) (mv : Value) (la : Option Addr) (nl lc : Nat) (Y : List XL) (ra : Option Addr) (nr rc : Nat) (XR : List XD) (da : Option Addr) (nd dc : Nat) (L : List R3) (s0 s1 s2 s3 : Int) (D : List D2) (dn : List Int) : Prop where
 hb : Blk wx N #[G la nl lc, E J s0, E J s1, E J s2, E J s3, G ra nr rc, G da nd dc] 77
 mb : Blk wx (N + 1) #[E J k, E J d, E J hs, mv] 25
 zb : Blk wx (N + 1 + 1) #[G U 0 0, E J 0, E J 0, E J 0, E J 0, G U 0 0, G U 0 0] 77
 F : zdv R wx la nl Y ra nr XR da nd L ((s0, s1, s2, s3), D, dn)
 bel : Z w.heap.size w wx
theorem zd4.below {R : Nat → Prop} {w wx wy : World} {N : Nat} {k d hs : Int} {mv : Value} {la : Option Addr} {nl lc : Nat} {Y : List XL} {ra : Option Addr} {nr rc : Nat} {XR : List XD} {da : Option Addr} {nd dc : Nat} {L : List R3} {s0 s1 s2 s3 : Int} {D : List D2} {dn : List Int}
  (H : zd4 R w wx N k d hs mv la nl lc Y ra nr rc XR da nd dc L s0 s1 s2 s3 D dn) (hb : Z wx.heap.size wx wy) : zd4 R w wy N k d hs mv la nl lc Y ra nr rc XR da nd dc L s0 s1 s2 s3 D dn :=
 ⟨H.hb.below hb H.hb.lt, H.mb.below hb H.mb.lt, H.zb.below hb H.zb.lt, H.F.below hb, H.bel.trans (hb.mono H.bel.size)⟩
theorem fill7K {w : World} {N : Nat} {zV : TypeId} {c0 c1 c2 c3 c4 c5 c6 : Value} (hb : Blk w N #[c0, c1, c2, c3, c4, c5, c6] zV) (u0 u1 u2 u3 u4 u5 u6 : Value) :
  Blk (r (r (r (r (r (r (r w ⟨N, 0, U⟩ u0) ⟨N, 1, U⟩ u1) ⟨N, 2, U⟩ u2) ⟨N, 3, U⟩ u3) ⟨N, 4, U⟩ u4) ⟨N, 5, U⟩ u5) ⟨N, 6, U⟩ u6) N #[u0, u1, u2, u3, u4, u5, u6] zV ∧ zh (fun b => b = N) w (r (r (r (r (r (r (r w ⟨N, 0, U⟩ u0) ⟨N, 1, U⟩ u1) ⟨N, 2, U⟩ u2) ⟨N, 3, U⟩ u3) ⟨N, 4, U⟩ u4) ⟨N, 5, U⟩ u5) ⟨N, 6, U⟩ u6) := by
 refine ⟨(fill7 hb u0 u1 u2 u3 u4 u5 u6).1, ?_⟩;have k0 := (zh.refl (fun b => b = N) w).setCell (p := ⟨N, 0, U⟩) rfl u0;have k1 := k0.setCell (p := ⟨N, 1, U⟩) rfl u1;have k2 := k1.setCell (p := ⟨N, 2, U⟩) rfl u2;have k3 := k2.setCell (p := ⟨N, 3, U⟩) rfl u3;have k4 := k3.setCell (p := ⟨N, 4, U⟩) rfl u4;have k5 := k4.setCell (p := ⟨N, 5, U⟩) rfl u5;exact k5.setCell (p := ⟨N, 6, U⟩) rfl u6
theorem zd4.fin {R : Nat → Prop} {w wx : World} {N : Nat} {k d hs : Int} {mv : Value} {la : Option Addr} {nl lc : Nat} {Y : List XL} {ra : Option Addr} {nr rc : Nat} {XR : List XD} {da : Option Addr} {nd dc : Nat} {L : List R3} {s0 s1 s2 s3 : Int} {D : List D2} {dn : List Int} (H : zd4 R w wx N k d hs mv la nl lc Y ra nr rc XR da nd dc L s0 s1 s2 s3 D dn) {R0 : Nat → Prop} (hR0 : ∀ b, R0 b → R b) (hR : R (N + 1 + 1)) (hN : w.heap.size ≤ N) :
  zbh R0 (((((((wx.setCell ⟨N + 1 + 1, 0, U⟩ (G la nl lc)).setCell ⟨N + 1 + 1, 1, U⟩ (E J s0)).setCell ⟨N + 1 + 1, 2, U⟩ (E J s1)).setCell ⟨N + 1 + 1, 3, U⟩ (E J s2)).setCell ⟨N + 1 + 1, 4, U⟩ (E J s3)).setCell ⟨N + 1 + 1, 5, U⟩ (G ra nr rc)).setCell ⟨N + 1 + 1, 6, U⟩ (G da nd dc)) (.agg #[G la nl lc, E J s0, E J s1, E J s2, E J s3, G ra nr rc, G da nd dc]) L ((s0, s1, s2, s3), D, dn) ∧ Z w.heap.size w (((((((wx.setCell ⟨N + 1 + 1, 0, U⟩ (G la nl lc)).setCell ⟨N + 1 + 1, 1, U⟩ (E J s0)).setCell ⟨N + 1 + 1, 2, U⟩ (E J s1)).setCell ⟨N + 1 + 1, 3, U⟩ (E J s2)).setCell ⟨N + 1 + 1, 4, U⟩ (E J s3)).setCell ⟨N + 1 + 1, 5, U⟩ (G ra nr rc)).setCell ⟨N + 1 + 1, 6, U⟩ (G da nd dc)) ∧
  Blk (((((((wx.setCell ⟨N + 1 + 1, 0, U⟩ (G la nl lc)).setCell ⟨N + 1 + 1, 1, U⟩ (E J s0)).setCell ⟨N + 1 + 1, 2, U⟩ (E J s1)).setCell ⟨N + 1 + 1, 3, U⟩ (E J s2)).setCell ⟨N + 1 + 1, 4, U⟩ (E J s3)).setCell ⟨N + 1 + 1, 5, U⟩ (G ra nr rc)).setCell ⟨N + 1 + 1, 6, U⟩ (G da nd dc)) (N + 1 + 1) #[G la nl lc, E J s0, E J s1, E J s2, E J s3, G ra nr rc, G da nd dc] 77 ∧ zh (fun b => b = N + 1 + 1) wx (((((((wx.setCell ⟨N + 1 + 1, 0, U⟩ (G la nl lc)).setCell ⟨N + 1 + 1, 1, U⟩ (E J s0)).setCell ⟨N + 1 + 1, 2, U⟩ (E J s1)).setCell ⟨N + 1 + 1, 3, U⟩ (E J s2)).setCell ⟨N + 1 + 1, 4, U⟩ (E J s3)).setCell ⟨N + 1 + 1, 5, U⟩ (G ra nr rc)).setCell ⟨N + 1 + 1, 6, U⟩ (G da nd dc)) := by
 obtain ⟨h1, h2⟩ := fill7K H.zb (G la nl lc) (E J s0) (E J s1) (E J s2) (E J s3) (G ra nr rc) (G da nd dc);have hk := h2.mono (fun b _ hb => by subst hb; exact hR);exact ⟨⟨_, _, _, _, _, _, _, _, _, _, _, rfl, (H.F.keep hk).wide (fun b hb => kaa (hR0 b hb))⟩, H.bel.trans (h2.below H.bel.size (fun b hb => by omega)), h1, h2⟩
theorem zd4.put {R : Nat → Prop} {w wx : World} {N : Nat} {k d hs : Int} {mv : Value} {la : Option Addr} {nl lc : Nat} {Y : List XL} {ra : Option Addr} {nr rc : Nat} {XR : List XD} {da : Option Addr} {nd dc : Nat} {L : List R3} {s0 s1 s2 s3 : Int} {D : List D2} {dn : List Int} (H : zd4 R w wx N k d hs mv la nl lc Y ra nr rc XR da nd dc L s0 s1 s2 s3 D dn) {la2 : Option Addr} {nl2 lc2 : Nat} {Y2 : List XL} {ra2 : Option Addr} {nr2 rc2 : Nat} {XR2 : List XD} {da2 : Option Addr} {nd2 dc2 : Nat} {L2 : List R3} {t0 t1 t2 t3 : Int} {D2 : List D2} {dn2 : List Int}
  (hF : zdv R wx la2 nl2 Y2 ra2 nr2 XR2 da2 nd2 L2 ((t0, t1, t2, t3), D2, dn2)) (hR : R N) (hN : w.heap.size ≤ N) :
  zd4 R w (((((((wx.setCell ⟨N, 0, U⟩ (G la2 nl2 lc2)).setCell ⟨N, 1, U⟩ (E J t0)).setCell ⟨N, 2, U⟩ (E J t1)).setCell ⟨N, 3, U⟩ (E J t2)).setCell ⟨N, 4, U⟩ (E J t3)).setCell ⟨N, 5, U⟩ (G ra2 nr2 rc2)).setCell ⟨N, 6, U⟩ (G da2 nd2 dc2)) N k d hs mv la2 nl2 lc2 Y2 ra2 nr2 rc2 XR2 da2 nd2 dc2 L2 t0 t1 t2 t3 D2 dn2 := by
 obtain ⟨h1, h2⟩ := fill7K H.hb (G la2 nl2 lc2) (E J t0) (E J t1) (E J t2) (E J t3) (G ra2 nr2 rc2) (G da2 nd2 dc2);have hk := h2.mono (fun b _ hb => by subst hb; exact hR);exact ⟨h1, H.mb.keep h2 (by omega), H.zb.keep h2 (by omega), hF.keep hk, H.bel.trans (h2.below H.bel.size (fun b hb => by omega))⟩
theorem zd4.cells {R : Nat → Prop} {w wx : World} {N : Nat} {k d hs : Int} {mv : Value} {la : Option Addr} {nl lc : Nat} {Y : List XL} {ra : Option Addr} {nr rc : Nat} {XR : List XD} {da : Option Addr} {nd dc : Nat} {L : List R3} {s0 s1 s2 s3 : Int} {D : List D2} {dn : List Int} (H : zd4 R w wx N k d hs mv la nl lc Y ra nr rc XR da nd dc L s0 s1 s2 s3 D dn) :
  (wx.cell? ⟨N, 0, U⟩ = some (G la nl lc) ∧ wx.cell? ⟨N, 1, U⟩ = some (E J s0) ∧ wx.cell? ⟨N, 2, U⟩ = some (E J s1) ∧ wx.cell? ⟨N, 3, U⟩ = some (E J s2) ∧ wx.cell? ⟨N, 4, U⟩ = some (E J s3) ∧ wx.cell? ⟨N, 5, U⟩ = some (G ra nr rc) ∧ wx.cell? ⟨N, 6, U⟩ = some (G da nd dc)) ∧
  (wx.cell? ⟨N + 1, 0, U⟩ = some (E J k) ∧ wx.cell? ⟨N + 1, 1, U⟩ = some (E J d) ∧ wx.cell? ⟨N + 1, 3, U⟩ = some mv) ∧ N + 1 + 1 < wx.heap.size :=
 ⟨⟨H.hb.cell 0, H.hb.cell 1, H.hb.cell 2, H.hb.cell 3, H.hb.cell 4, H.hb.cell 5, H.hb.cell 6⟩, ⟨H.mb.cell 0, H.mb.cell 1, H.mb.cell 3⟩, H.zb.lt⟩
theorem zdl {w : World} {N : Nat} {zV : TypeId} {c0 c1 c2 c3 c4 c5 c6 : Value} (H : Blk w N #[c0, c1, c2, c3, c4, c5, c6] zV) :
  (w.cell? ⟨N, 0, U⟩ = some c0 ∧ w.cell? ⟨N, 1, U⟩ = some c1 ∧ w.cell? ⟨N, 2, U⟩ = some c2 ∧ w.cell? ⟨N, 3, U⟩ = some c3 ∧ w.cell? ⟨N, 4, U⟩ = some c4 ∧ w.cell? ⟨N, 5, U⟩ = some c5 ∧ w.cell? ⟨N, 6, U⟩ = some c6) ∧
  (w.frozen? ⟨N, 0, U⟩ = false ∧ w.frozen? ⟨N, 1, U⟩ = false ∧ w.frozen? ⟨N, 2, U⟩ = false ∧ w.frozen? ⟨N, 3, U⟩ = false ∧ w.frozen? ⟨N, 4, U⟩ = false ∧ w.frozen? ⟨N, 5, U⟩ = false ∧ w.frozen? ⟨N, 6, U⟩ = false) :=
 ⟨⟨H.cell 0, H.cell 1, H.cell 2, H.cell 3, H.cell 4, H.cell 5, H.cell 6⟩, ⟨H.free 0, H.free 1, H.free 2, H.free 3, H.free 4, H.free 5, H.free 6⟩⟩
theorem zn0 (a : Option Addr) (l : List Int) (cap n : Nat) (w : World) (hn : n = l.length) (hl : l.length ≤ 3518437208883) (hp : zk 1 zq w a l) :
  Calls Tryz.prog 46 #[G a n cap] w fun e w' => ∃ a' c', e = .returned (G a' n c') ∧ zd 3 1 zq w' w.heap.size (G a' n c') l ∧ Z w.heap.size w w' := by
 have q : ∀ (w : World) (a : Option Addr) (n c n' c' : Nat), (binOp .eql 56 (G a n c) (G U n' c')).run Tryz.prog w = .ok (.bool a.isNone) w := fun w a n c n' c' => Lib.run_eql_slice_nil w _ _ a n c n' c' Tryz.underlying56
 cases a with
 | none =>
  have h0 : l = [] := by
   rcases hp with h | ⟨b, o, h, _⟩
   ·exact h
   ·cases h
  subst h0;subst hn;clear hp;go_enter Tryz.func46, Tryz.ntmps46
  go_wp2;go_ret;exact ⟨_, _, rfl, zd.nil _ _, Below.refl _ _⟩
 | some ad =>
  have HP := zA hp;have HN := zA hn;clear hp hn;go_enter Tryz.func46, Tryz.ntmps46
  go_wp2_with (at_builtin; refine zbk zal zcw Tryz.underlying56 zcm rfl (by decide) _ rfl _ _ rfl w.heap.size _ [] rfl (World.ownsRow_made w #[] 0 (kab _) (Nat.zero_le _) (by simp)) (some ad) n cap l rfl HN.out (HP.out.below (zg w _)) (by unfold maxLen; simp; omega) (by simp; omega) (by simp) ?_; intro a' n' c' w1 jx hn' qz hat)
  have HO : Q (zd 3 1 zq w1 w.heap.size (G a' n' c') l ∧ n' = n) := ⟨by rw [List.nil_append] at jx; exact jx, by rw [hn', HN.out]; simp⟩;clear jx hn' hat;go_wp2;go_ret;refine ⟨a', c', by rw [← HN.out] at *; exact rfl, by rw [← HO.out.2]; exact HO.out.1, ?_⟩;exact ((Below.refl _ w).alloc (kab _) _).grown qz (by simp) (by intro k hk; cases hk; exact kab _)
end Go.Proofs.YtpcnlifmkhagkaaGreat
