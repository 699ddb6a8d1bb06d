import Derived.Test.YtpcnlifmkhagkaaGreatKTWire6
set_option maxRecDepth 20000
set_option maxHeartbeats 20000000
namespace Go.Proofs.YtpcnlifmkhagkaaGreat
open Go.RowKit
open Go.Value renaming slice → G, int → E
open Go.IntKind renaming i64 → J
open _root_.Option renaming none → U
open Go.Obj renaming cells → T
open Go.RowKit renaming Hid → Q, Below → Z
open Go.World renaming setCell → r
open Go.Region renaming ready → kaa, wanted → kab
open Go.Value renaming ownBlock → kac
open _root_.Bool renaming and_eq_true → kad
open _root_.List renaming getElem?_toArray → kae, getElem?_cons_zero → kaf, getElem?_cons_succ → kag, mem_of_mem_eraseIdx → kah
attribute [local go_sem ↓] Go.wp_at_zero Go.wp_at_succ
theorem zop {w : World} {a : Option Addr} {l : List Nat} (h : zde w a l) (k : Nat) : zde w a (l.take k) := by
 rcases h with rfl | ⟨b, o, rfl, hlt, hc⟩
 ·exact Or.inl (by simp)
 ·refine Or.inr ⟨b, o, rfl, hlt, fun i hi => ?_⟩
  have hi' : i < l.length := by simp at hi; omega
  rw [List.getElem_take];exact hc i hi'
theorem byt_take {l : List Nat} (h : Byt l) (k : Nat) : Byt (l.take k) := fun c hc => h c (List.mem_of_mem_take hc)
theorem zbw.le {w : World} {base : Nat} {v : Value} {l : List P3} (h : zbw w base v l) : l.length ≤ 9223372036854775807 := by
 rcases h.2 with ⟨_, h0⟩ | ⟨g, cap, cur, hv, hg, hh, h1, h2, _⟩
 ·omega
 ·unfold maxLen at h2; omega
theorem put4 {W : World} {N : Nat} {c0 c1 c2 c3 : Value} {t : TypeId} (hb : Blk W N #[c0, c1, c2, c3] t) (v0 v1 v2 v3 : Value) :
  Blk (r (r (r (r W ⟨N, 0, U⟩ v0) ⟨N, 1, U⟩ v1) ⟨N, 2, U⟩ v2) ⟨N, 3, U⟩ v3) N #[v0, v1, v2, v3] t ∧
  zf (fun q => q = N) W (r (r (r (r W ⟨N, 0, U⟩ v0) ⟨N, 1, U⟩ v1) ⟨N, 2, U⟩ v2) ⟨N, 3, U⟩ v3) :=
 ⟨(((hb.set 0 _).set 1 _).set 2 _).set 3 _, ((((zf.refl (fun q => q = N) W).setCell rfl _).setCell rfl _).setCell rfl _).setCell rfl _⟩
theorem zdq.len {w : World} {base : Nat} {v : Value} {bs : List (List Nat)} (h : zdq w base v bs) : ∃ X : List XN, X.length = bs.length ∧ za 113 1 zcd w base v X ∧ X.map (·.2) = bs ∧ (∀ x ∈ X, zdo base w x.1.1 x.2) ∧ ∀ x ∈ X, x.2.length ≤ x.1.2 ∧ x.1.2 ≤ maxLen := by
 obtain ⟨X, h1, h2, h3, h4⟩ := h;exact ⟨X, by rw [← h2, List.length_map], h1, h2, h3, h4⟩
theorem zg.keep {t : TypeId} {R : Nat → Prop} {w w' : World} (hk : zf R w w') (hR : ∀ b, R b → ∃ cs t', Blk w b cs t' ∧ t' ≠ t) : zg t w w' := fun b cs x => x.keep hk (fun hb => by
 obtain ⟨cs', t', h1, h2⟩ := hR b hb;unfold Blk at h1 x
 rw [x] at h1;injection h1 with h1
 injection h1 with _ q _
 exact h2 q.symm)
theorem za.set4 {α : Type} {e zV : TypeId} {size : Nat} {enc : α → List Value} {w : World} {base N : Nat} {v : Value} {xs : List α} {c0 c1 c2 c3 : Value} (h : za e size enc w base v xs) (hz : Blk w N #[c0, c1, c2, c3] zV) (hT : zV ≠ e) (v0 v1 v2 v3 : Value) : za e size enc (r (r (r (r w ⟨N, 0, U⟩ v0) ⟨N, 1, U⟩ v1) ⟨N, 2, U⟩ v2) ⟨N, 3, U⟩ v3) base v xs :=
 (((h.setOther (a := ⟨N, 0, U⟩) hz hT _).setOther (a := ⟨N, 1, U⟩) (hz.set 0 _) hT _).setOther (a := ⟨N, 2, U⟩) ((hz.set 0 _).set 1 _) hT _).setOther (a := ⟨N, 3, U⟩) (((hz.set 0 _).set 1 _).set 2 _) hT _
theorem zg.set4 {t zV : TypeId} {w : World} {N : Nat} {c0 c1 c2 c3 : Value} (hz : Blk w N #[c0, c1, c2, c3] zV) (hT : zV ≠ t) (v0 v1 v2 v3 : Value) : zg t w (r (r (r (r w ⟨N, 0, U⟩ v0) ⟨N, 1, U⟩ v1) ⟨N, 2, U⟩ v2) ⟨N, 3, U⟩ v3) :=
 (((zg.setCell (a := ⟨N, 0, U⟩) hz hT _).trans (zg.setCell (a := ⟨N, 1, U⟩) (hz.set 0 _) hT _)).trans (zg.setCell (a := ⟨N, 2, U⟩) ((hz.set 0 _).set 1 _) hT _)).trans (zg.setCell (a := ⟨N, 3, U⟩) (((hz.set 0 _).set 1 _).set 2 _) hT _)
structure HrS (w0 : World) (mk md mh : Int) (mv : Value) (bt nx : Int) (N7 : Nat) (w : World) (a2 : Option Addr) (n2 c2 : Nat) (Y2 : List XL) (L : List R3) (a3 : Option Addr) (n3 c3 : Nat) (X2 : List XO) (O : List O4) : Prop where
 mb : Blk w (w0.heap.size + 1) #[E J mk, E J md, E J mh, mv] 25
 rb : Blk w (w0.heap.size + 2) #[G U 0 0, E J 0, E J 0, G U 0 0] 29
 ob : Blk w N7 #[G a2 n2 c2, E J bt, E J nx, G a3 n3 c3] 29
 hd : zbg w (w0.heap.size + 3) a2 n2 c2 Y2 a3 n3 c3 X2 L O
 he : zby w (w0.heap.size + 3) X2
 bel : Z w0.heap.size w0 w
 ne : w0.heap.size + 3 ≤ N7
section
variable {w0 w w' : World} {mk md mh : Int} {mv : Value} {bt nx : Int} {N7 : Nat} {a2 : Option Addr} {n2 c2 : Nat} {Y2 : List XL} {L : List R3} {a3 : Option Addr} {n3 c3 : Nat} {X2 : List XO} {O : List O4}
theorem HrS.below (H : HrS w0 mk md mh mv bt nx N7 w a2 n2 c2 Y2 L a3 n3 c3 X2 O) (hb : Z w.heap.size w w') : HrS w0 mk md mh mv bt nx N7 w' a2 n2 c2 Y2 L a3 n3 c3 X2 O :=
 ⟨H.mb.below hb H.mb.lt, H.rb.below hb H.rb.lt, H.ob.below hb H.ob.lt, H.hd.below hb, H.he.below hb, H.bel.trans (hb.mono H.bel.size), H.ne⟩
theorem za.keepK {α : Type} {e : TypeId} {size : Nat} {enc : α → List Value} {w w' : World} {base : Nat} {v : Value} {xs : List α} (h : za e size enc w base v xs) {R : Nat → Prop} (hk : zf R w w') (hR : ∀ b, v.ownBlock = some b → ¬ R b) : za e size enc w' base v xs := by
 refine ⟨h.1, ?_⟩;rcases h.2 with ⟨hv, h0⟩ | ⟨g, cap, cur, hv, hg, hh, hcap, hmx, hsz, htake⟩
 ·exact Or.inl ⟨hv, h0⟩
 ·refine Or.inr ⟨g, cap, cur, hv, hg, ?_, hcap, hmx, hsz, htake⟩
  exact Blk.keep (show Blk w g cur e from hh) hk (hR g (by rw [hv]; rfl))
theorem HrS.del (H : HrS w0 mk md mh mv bt nx N7 w a2 n2 c2 Y2 L a3 n3 c3 X2 O) {w5 : World} {i : Nat} (hk : zf (fun q => kac (G a3 n3 c3) = some q) w w5) {a5 : Option Addr} {n5 c5 : Nat} (ho : za 58 4 zaj w5 (w0.heap.size + 3) (G a5 n5 c5) (X2.eraseIdx i)) :
  HrS w0 mk md mh mv bt nx N7 (r w5 ⟨N7, 3, U⟩ (G a5 n5 c5)) a2 n2 c2 Y2 L a5 n5 c5 (X2.eraseIdx i) (O.eraseIdx i) := by
 have hT : ∀ (t : TypeId), t ≠ 58 → ∀ b, kac (G a3 n3 c3) = some b → ∃ cs t', Blk w b cs t' ∧ t' ≠ t := fun t ht b hb => by
  obtain ⟨_, cs, hB⟩ := H.hd.opn.blk hb;exact ⟨cs, _, hB, fun e => ht e.symm⟩
 have hcP : zg 90 w w5 := zg.keep hk (hT _ (by decide));have hcI : zg 3 w w5 := zg.keep hk (hT _ (by decide));have hcH : zg 29 w w5 := zg.keep hk (hT _ (by decide));have hcM : zg 25 w w5 := zg.keep hk (hT _ (by decide));have o5 := hcH _ _ H.ob;have hne := H.ne
 have hlog : za 40 3 zah w5 (w0.heap.size + 3) (G a2 n2 c2) Y2 := H.hd.log.1.keepK hk (fun b hb hq => by
  obtain ⟨_, cs, hB⟩ := H.hd.log.1.blk hb
  exact absurd hq (H.hd.opn.neT hB (by decide)))
 have hd5 : zbg w5 (w0.heap.size + 3) a2 n2 c2 Y2 a5 n5 c5 (X2.eraseIdx i) L (O.eraseIdx i) := ⟨⟨hlog, fun y hy => (H.hd.log.2 y hy).calm hcP⟩, H.hd.says, ho, by rw [← H.hd.osays, List.eraseIdx_eq_take_drop_succ, List.eraseIdx_eq_take_drop_succ, List.map_append, List.map_take, List.map_drop], fun x hx => ⟨(H.hd.op x (kah hx)).1.calm hcP, (H.hd.op x (kah hx)).2.calm hcI⟩⟩
 have he5 : zby w5 (w0.heap.size + 3) (X2.eraseIdx i) := ⟨fun x hx => (H.he.own x (kah hx)).keepK hk (fun b hb hq => by
  obtain ⟨_, cs, hB⟩ := (H.he.own x (kah hx)).blk hb
  exact absurd hq (H.hd.opn.neT hB (by decide))), H.he.ne.sublist (List.eraseIdx_sublist _ _)⟩
 exact ⟨(hcM _ _ H.mb).setOther (a := ⟨N7, 3, U⟩) (by simp; omega) _, (hcH _ _ H.rb).setOther (a := ⟨N7, 3, U⟩) (by simp; omega) _, o5.set 3 _, hd5.set o5 (by decide) (by decide) (by decide) (by decide) _, he5.set o5 (by decide) _, (H.bel.trans (hk.below H.bel.size (fun b hb => by have h1 := H.hd.opn.base _ hb; omega))).setCell (by simp; omega) _, hne⟩
theorem HrS.ret (H : HrS w0 mk md mh mv bt nx N7 w a2 n2 c2 Y2 L a3 n3 c3 X2 O) :
  (∀ R : Nat → Prop, (∀ b, R b → b < w0.heap.size) → zy R (r (r (r (r w ⟨w0.heap.size + 2, 0, U⟩ (G a2 n2 c2)) ⟨w0.heap.size + 2, 1, U⟩ (E J bt)) ⟨w0.heap.size + 2, 2, U⟩ (E J nx)) ⟨w0.heap.size + 2, 3, U⟩ (G a3 n3 c3)) (.agg #[G a2 n2 c2, E J bt, E J nx, G a3 n3 c3]) ⟨L, bt, nx, O⟩) ∧
  Z w0.heap.size w0 (r (r (r (r w ⟨w0.heap.size + 2, 0, U⟩ (G a2 n2 c2)) ⟨w0.heap.size + 2, 1, U⟩ (E J bt)) ⟨w0.heap.size + 2, 2, U⟩ (E J nx)) ⟨w0.heap.size + 2, 3, U⟩ (G a3 n3 c3)) ∧
  Blk (r (r (r (r w ⟨w0.heap.size + 2, 0, U⟩ (G a2 n2 c2)) ⟨w0.heap.size + 2, 1, U⟩ (E J bt)) ⟨w0.heap.size + 2, 2, U⟩ (E J nx)) ⟨w0.heap.size + 2, 3, U⟩ (G a3 n3 c3)) (w0.heap.size + 2) #[G a2 n2 c2, E J bt, E J nx, G a3 n3 c3] 29 := by
 have z := H.rb;have hk4 := zb0 z (G a2 n2 c2) (E J bt) (E J nx) (G a3 n3 c3);have hO := (((((H.hd.mono (by omega : w0.heap.size ≤ w0.heap.size + 3)).set z (by decide) (by decide) (by decide) (by decide) (G a2 n2 c2) (i := 0)).set (z.set 0 _) (by decide) (by decide) (by decide) (by decide) (E J bt) (i := 1)).set ((z.set 0 _).set 1 _) (by decide) (by decide) (by decide) (by decide) (E J nx) (i := 2)).set (((z.set 0 _).set 1 _).set 2 _) (by decide) (by decide) (by decide) (by decide) (G a3 n3 c3) (i := 3));exact ⟨fun R hR => hO.v (g := ⟨L, bt, nx, O⟩) hR rfl rfl, H.bel.trans (hk4.2.below H.bel.size (fun b hb => by omega)), hk4.1⟩
end
section
variable {P : Program} {ops : Array Oper} {zZ : Exit → Act → World → Prop} {md : Region.Mode} {S : World → Prop} {k : Nat}
def zcq (P : Program) (md : Region.Mode) (ops : Array Oper) (zZ : Exit → Act → World → Prop) (S : World → Prop) (k : Nat) : Nat → Array Bool → Act → World → Prop
 | 0, listed, a, w => kaa md ops listed = [] ∧ zZ .normal a w
 | fuel + 1, listed, a, w =>
  (kaa md ops listed = [] → zZ .normal a w) ∧
  ∀ i ∈ kaa md ops listed, wpOp P ops zZ i (fun a' w' => ((listed.setIfInBounds i true).getD k true = false → S w') ∧ zcq P md ops zZ S k fuel (listed.setIfInBounds i true) a' w') a w
theorem zla : ∀ (fuel : Nat) (listed : Array Bool) (a : Act) (w : World), zcq P md ops zZ S k fuel listed a w → wpAny P md ops zZ fuel listed a w
 | 0, _, _, _, h => h
 | fuel + 1, _, _, _, h => ⟨h.1, fun i hi => wpOp_mono (fun a' w' h' => zla fuel _ a' w' h'.2) (h.2 i hi)⟩
def zga (md : Region.Mode) (ops : Array Oper) (listed : Array Bool) : Prop :=
 ∀ (j : Nat) (o : Oper), ops[j]? = some o → listed.getD j false = true → ∀ e ∈ o.after, Region.binds md e = true → listed.getD e.on false = true
def zhr (md : Region.Mode) (ops : Array Oper) (listed : Array Bool) : Bool :=
 (List.range ops.size).all fun j => !listed.getD j false || match ops[j]? with
  | some o => o.after.all fun e => !Region.binds md e || listed.getD e.on false
  | none => true
theorem closed_of {listed : Array Bool} (h : zhr md ops listed = true) : zga md ops listed := by
 intro j o ho hl e he hb;simp only [zhr, List.all_eq_true, List.mem_range] at h
 have h1 := h j (Array.getElem?_eq_some_iff.1 ho).1;simp only [ho, hl, Bool.not_true, Bool.false_or, Array.all_eq_true_iff_forall_mem] at h1
 have h2 := h1 e he
 simpa [hb] using h2
theorem zga.set {listed : Array Bool} (h : zga md ops listed) {j : Nat} (hj : j ∈ kaa md ops listed) : zga md ops (listed.setIfInBounds j true) := by
 obtain ⟨h0, o, ho, hall⟩ := mem_ready.1 hj;intro i o' ho' hl e he hb;by_cases hij : i = j
 ·subst hij
  rw [ho] at ho';cases ho';exact getD_set_true (hall e he hb)
 ·rw [getD_set_ne false (Ne.symm hij)] at hl
  exact getD_set_true (h i o' ho' hl e he hb)
def ze4 (md : Region.Mode) (ops : Array Oper) : Nat → Nat → Nat → Bool
 | 0, _, _ => false
 | n + 1, j, i => match ops[j]? with
  | some o => o.after.any fun e => Region.binds md e && (e.on == i || ze4 md ops n e.on i)
  | none => false
theorem zmx {listed : Array Bool} (hc : zga md ops listed) {i : Nat} : ∀ (n j : Nat), ze4 md ops n j i = true → listed.getD j false = true → listed.getD i false = true
 | 0, _, h, _ => by simp [ze4] at h
 | n + 1, j, h, hl => by
  unfold ze4 at h
  split at h
  ·rename_i o ho
   obtain ⟨e, he, hb⟩ := Array.any_eq_true'.1 h;simp only [kad, Bool.or_eq_true, beq_iff_eq] at hb
   have h1 := hc j o ho hl e he hb.1;rcases hb.2 with h2 | h2
   ·rw [← h2]; exact h1
   ·exact zmx hc n _ h2 h1
  ·cases h
theorem zox {listed : Array Bool} (hc : zga md ops listed) {i j n : Nat} (hw : ze4 md ops n j i = true) (hj : j ∈ kaa md ops listed) : listed.getD i false = true := by
 obtain ⟨h0, o, ho, hall⟩ := mem_ready.1 hj
 cases n with
 | zero => simp [ze4] at hw
 | succ n =>
  unfold ze4 at hw
  simp only [ho] at hw
  obtain ⟨e, he, hb⟩ := Array.any_eq_true'.1 hw;simp only [kad, Bool.or_eq_true, beq_iff_eq] at hb
  have h1 := hall e he hb.1;rcases hb.2 with h2 | h2
  ·rw [← h2]; exact h1
  ·exact zmx hc n _ h2 h1
theorem zkp {listed : Array Bool} {i : Nat} (h0 : listed.getD i true = false) (h1 : listed.getD i false = true) : False := by
 rcases Nat.lt_or_ge i listed.size with h' | h'
 ·simp [h'] at h0 h1; rw [h0] at h1; cases h1
 ·simp [Array.getElem?_eq_none h'] at h1
theorem zqs {i n : Nat} {oi : Oper} {v : Value} (hi : ops[i]? = some oi) (hsel : ∀ (j : Nat) (o : Oper) cs b, ops[j]? = some o → o.op ≠ .select cs b)
  (hQ : ∀ c a w, zZ (.panic c) (a.put oi.dst v) w → zZ (.panic c) a w) (hik : i ≠ k) (hwt : ze4 md ops n k i = true) :
  ∀ (fuel : Nat) (listed : Array Bool) (a : Act) (w : World),
   (∀ j oj, ops[j]? = some oj → j ≠ i → listed.getD j true = false → (∀ e ∈ oj.after, Region.binds md e = true → e.on ≠ i) → oi.apart ops oj = true) →
   zga md ops listed → listed.getD k true = false → i ∈ kaa md ops listed → YieldsIf P ops S oi v a → S w →
   zcq P md ops zZ S k fuel (listed.setIfInBounds i true) (a.put oi.dst v) w → zcq P md ops zZ S k (fuel + 1) listed a w := by
 intro fuel
 induction fuel with
 | zero =>
  intro listed a w _ _ _ hr hy hS H;refine ⟨fun h => (by rw [h] at hr; cases hr), fun j hj => ?_⟩;by_cases hji : j = i
  ·subst hji; exact hy.wpOp hi hS ⟨fun _ => hS, H⟩
  ·have := ready_mono hj hji
   rw [H.1] at this;cases this
 | succ fuel ih =>
  intro listed a w hfree hc hkl hr hy hS H;refine ⟨fun h => (by rw [h] at hr; cases hr), fun j hj => ?_⟩;by_cases hji : j = i
  ·subst hji; exact hy.wpOp hi hS ⟨fun _ => hS, H⟩
  ·have hjk : j ≠ k := fun e => zkp (mem_ready.1 hr).1 (zox hc hwt (e ▸ hj))
   have h1 := H.2 j (ready_mono hj hji);obtain ⟨hjun, oj, hoj, hall⟩ := mem_ready.1 hj
   have hnot : ∀ e ∈ oj.after, Region.binds md e = true → e.on ≠ i := fun e he hb heq => by
    have h1 := hall e he hb;have h0 := (mem_ready.1 hr).1;rw [heq] at h1;exact zkp h0 h1
   have h2 := wpOp_putIf hoj (hfree j oj hoj hji hjun hnot) (fun cs b => hsel i oi cs b hi) (fun cs b => hsel j oj cs b hoj) hQ hy h1
   have hfree' : ∀ k ok, ops[k]? = some ok → k ≠ i → (listed.setIfInBounds j true).getD k true = false →
     (∀ e ∈ ok.after, Region.binds md e = true → e.on ≠ i) → oi.apart ops ok = true := fun k ok hk hki hun hno => by
    refine hfree k ok hk hki ?_ hno;by_cases hjk : j = k
    ·subst hjk; exact hjun
    ·rw [getD_set_ne true hjk] at hun; exact hun
   refine wpOp_mono (fun a' w' h3 => ?_) h2;have hS' := h3.2.1 (by rw [getD_set_ne true hjk, getD_set_ne true hik]; exact hkl);refine ⟨fun _ => hS', ih (listed.setIfInBounds j true) a' w' hfree' (hc.set hj) (by rw [getD_set_ne true hjk]; exact hkl) (ready_mono hr (Ne.symm hji)) h3.1 hS' ?_⟩;rw [Array.setIfInBounds_comm _ _ hji];exact h3.2.2
theorem zqf {i : Nat} {oi : Oper} {v : Value} {fuel : Nat} {listed : Array Bool} {a : Act} {w : World} (n : Nat) (hi : ops[i]? = some oi)
  (hs : Region.noSelect ops = true) (hf : Region.free md ops listed i = true) (hr : (kaa md ops listed).contains i = true)
  (hk : ((i != k) && ze4 md ops n k i && zhr md ops listed && !listed.getD k true) = true)
  (hQ : ∀ c a w, zZ (.panic c) (a.put oi.dst v) w → zZ (.panic c) a w) (hy : YieldsIf P ops S oi v a) (hS : S w)
  (h : zcq P md ops zZ S k fuel (listed.setIfInBounds i true) (a.put oi.dst v) w) : zcq P md ops zZ S k (fuel + 1) listed a w := by
 simp only [kad, bne_iff_ne, ne_eq, Bool.not_eq_true'] at hk
 obtain ⟨⟨⟨h1, h2⟩, h3⟩, h4⟩ := hk;exact zqs hi (Region.noSelect_spec hs) hQ h1 h2 fuel listed a w (Region.free_spec hi hf) (closed_of h3) h4 (by simpa using hr) hy hS h
def zaz (P : Program) (md : Region.Mode) (ops : Array Oper) (zZ : Exit → Act → World → Prop) (S : World → Prop) (k fuel : Nat) (listed : Array Bool) (a : Act) (w : World) (rs : List Nat) : Prop :=
 ∀ i ∈ rs, wpOp P ops zZ i (fun a' w' => ((listed.setIfInBounds i true).getD k true = false → S w') ∧ zcq P md ops zZ S k fuel (listed.setIfInBounds i true) a' w') a w
theorem zaz.nil {fuel : Nat} {listed : Array Bool} {a : Act} {w : World} : zaz P md ops zZ S k fuel listed a w [] := fun _ h => by cases h
theorem zaz.cons {fuel : Nat} {listed : Array Bool} {a : Act} {w : World} {i : Nat} {o : Oper} {rs : List Nat} (ho : ops[i]? = some o)
  (h : ∀ K' : Act → World → Prop, Shut (∀ a w, ((listed.setIfInBounds i true).getD k true = false → S w) → (((listed.setIfInBounds i true).getD k true = false → S w) → zcq P md ops zZ S k fuel (listed.setIfInBounds i true) a w) → K' a w) → if kab o (yielded ops a.tmps) = true then Oper.wp P o a w K' zZ else K' (a.put o.dst undef) w)
  (hs : zaz P md ops zZ S k fuel listed a w rs) : zaz P md ops zZ S k fuel listed a w (i :: rs) := fun j hj => by
 rcases List.mem_cons.1 hj with rfl | hj
 ·exact wpOp_step ho (fun K' hK => h K' (fun a w hS hW => hK a w ⟨hS, hW hS⟩))
 ·exact hs j hj
theorem zeg {rs : List Nat} {fuel : Nat} {listed : Array Bool} {a : Act} {w : World} (hr : kaa md ops listed = rs) (hne : rs ≠ [])
  (h : zaz P md ops zZ S k fuel listed a w rs) : zcq P md ops zZ S k (fuel + 1) listed a w :=
 ⟨fun h0 => absurd (hr ▸ h0) hne, hr ▸ h⟩
theorem zbd {listed : Array Bool} {a : Act} {w : World} (hr : kaa md ops listed = []) (h : zZ .normal a w) :
  ∀ fuel, zcq P md ops zZ S k fuel listed a w
 | 0 => ⟨hr, h⟩
 | _ + 1 => ⟨fun _ => h, by rw [hr]; simp⟩
theorem zej {i d : Nat} {oi : Oper} {v : Value} {fuel : Nat} {listed : Array Bool} {a : Act} {w : World} (hi : ops[i]? = some oi) (hd : oi.dst = some d)
  (hs : Region.noSelect ops = true) (hf : Region.free md ops listed i = true) (hr : (kaa md ops listed).contains i = true)
  (hQ : ∀ c a w, zZ (.panic c) (a.put oi.dst v) w → zZ (.panic c) a w) (hy : YieldsIf P ops S oi v a) (hS : S w)
  (h : wpAnyH P md ops zZ S fuel (listed.setIfInBounds i true) (a.put (some d) v) w) : wpAnyH P md ops zZ S (fuel + 1) listed a w :=
 wpAnyH_take hi hs hf hr hQ hy hS (by rw [hd]; exact h)
theorem zno {i d : Nat} {oi : Oper} {v : Value} {fuel : Nat} {listed : Array Bool} {a : Act} {w : World} (n : Nat) (hi : ops[i]? = some oi) (hd : oi.dst = some d)
  (hs : Region.noSelect ops = true) (hf : Region.free md ops listed i = true) (hr : (kaa md ops listed).contains i = true)
  (hk : ((i != k) && ze4 md ops n k i && zhr md ops listed && !listed.getD k true) = true)
  (hQ : ∀ c a w, zZ (.panic c) (a.put oi.dst v) w → zZ (.panic c) a w) (hy : YieldsIf P ops S oi v a) (hS : S w)
  (h : zcq P md ops zZ S k fuel (listed.setIfInBounds i true) (a.put (some d) v) w) : zcq P md ops zZ S k (fuel + 1) listed a w :=
 zqf n hi hs hf hr hk hQ hy hS (by rw [hd]; exact h)
def tkB (md : Region.Mode) (ops : Array Oper) (k i : Nat) (listed : Array Bool) : Bool :=
 Region.noSelect ops && Region.free md ops listed i && (kaa md ops listed).contains i && ((i != k) && ze4 md ops 20 k i && zhr md ops listed && !listed.getD k true)
theorem tk (i d : Nat) {oi : Oper} {v : Value} {fuel : Nat} {listed : Array Bool} {a : Act} {w : World} (hi : ops[i]? = some oi) (hd : oi.dst = some d) (hok : tkB md ops k i listed = true)
  (hQ : ∀ c a w, zZ (.panic c) (a.put oi.dst v) w → zZ (.panic c) a w) (hg : kab oi (yielded ops a.tmps) = true) (hv : ∀ w, S w → (execOp a.eval oi).run P w = .ok (.value v) w) (hS : S w)
  (h : zcq P md ops zZ S k fuel (listed.setIfInBounds i true) (a.put (some d) v) w) : zcq P md ops zZ S k (fuel + 1) listed a w := by
 simp only [tkB, kad] at hok
 obtain ⟨⟨⟨h1, h2⟩, h3⟩, h4⟩ := hok;exact zno 20 hi hd h1 h2 h3 (by simp only [kad]; exact h4) hQ (Or.inl ⟨hg, hv⟩) hS h
def zo (P : Program) (ops : Array Oper) (S : World → Prop) : List (Nat × Nat) → Act → Act → Prop
 | [], a, b => b = a
 | (i, d) :: t, a, b => ∃ (oi : Oper) (v : Value), ops[i]? = some oi ∧ oi.dst = some d ∧ kab oi (yielded ops a.tmps) = true ∧ (∀ w, S w → (execOp a.eval oi).run P w = .ok (.value v) w) ∧ zo P ops S t (a.put (some d) v) b
theorem zo.nil {a : Act} : zo P ops S [] a a := rfl
theorem zo.cons {i d : Nat} {t : List (Nat × Nat)} {a b : Act} {oi : Oper} {v : Value} (h1 : ops[i]? = some oi) (h2 : oi.dst = some d) (h3 : kab oi (yielded ops a.tmps) = true) (h4 : ∀ w, S w → (execOp a.eval oi).run P w = .ok (.value v) w) (h5 : zo P ops S t (a.put (some d) v) b) : zo P ops S ((i, d) :: t) a b := ⟨oi, v, h1, h2, h3, h4, h5⟩
def tksB (md : Region.Mode) (ops : Array Oper) (k : Nat) : List (Nat × Nat) → Array Bool → Bool
 | [], _ => true
 | (i, _) :: t, listed => tkB md ops k i listed && tksB md ops k t (listed.setIfInBounds i true)
def zjw : List (Nat × Nat) → Array Bool → Array Bool
 | [], listed => listed
 | (i, _) :: t, listed => zjw t (listed.setIfInBounds i true)
theorem tks_go (hQ : ∀ (d : Nat) v c a w, zZ (.panic c) (Act.put a (some d) v) w → zZ (.panic c) a w) : ∀ (l : List (Nat × Nat)) {fuel : Nat} {listed : Array Bool} {a b : Act} {w : World}, tksB md ops k l listed = true → zo P ops S l a b → S w →
  zcq P md ops zZ S k fuel (zjw l listed) b w → zcq P md ops zZ S k (fuel + l.length) listed a w
 | [], _, _, _, _, _, _, hT, _, h => by subst hT; exact h
 | (i, d) :: t, fuel, listed, a, b, w, hB, ⟨oi, v, h1, h2, h3, h4, h5⟩, hS, h => by
  rw [tksB, kad] at hB;have e : fuel + ((i, d) :: t).length = (fuel + t.length) + 1 := by simp; omega
  rw [e];exact tk i d h1 h2 hB.1 (by rw [h2]; exact hQ _ _) h3 h4 hS (tks_go hQ t hB.2 h5 hS h)
theorem tks (n : Nat) (l : List (Nat × Nat)) {fuel : Nat} {listed : Array Bool} {a b : Act} {w : World} (hl : l.length = n) (hB : tksB md ops k l listed = true) (hQ : ∀ (d : Nat) v c a w, zZ (.panic c) (Act.put a (some d) v) w → zZ (.panic c) a w) (hT : zo P ops S l a b) (hS : S w)
  (h : zcq P md ops zZ S k fuel (zjw l listed) b w) : zcq P md ops zZ S k (fuel + n) listed a w := hl ▸ tks_go hQ l hB hT hS h
def zfh (P : Program) (ops : Array Oper) (S : World → Prop) : List (Nat × Nat) → Act → Act → Prop
 | [], a, b => b = a
 | (i, d) :: t, a, b => ∃ (oi : Oper) (v : Value), ops[i]? = some oi ∧ oi.dst = some d ∧ YieldsIf P ops S oi v a ∧ zfh P ops S t (a.put (some d) v) b
theorem zfh.nil {a : Act} : zfh P ops S [] a a := rfl
theorem zfh.cons {i d : Nat} {t : List (Nat × Nat)} {a b : Act} {oi : Oper} {v : Value} (h1 : ops[i]? = some oi) (h2 : oi.dst = some d) (h3 : kab oi (yielded ops a.tmps) = true) (h4 : ∀ w, S w → (execOp a.eval oi).run P w = .ok (.value v) w) (h5 : zfh P ops S t (a.put (some d) v) b) : zfh P ops S ((i, d) :: t) a b := ⟨oi, v, h1, h2, Or.inl ⟨h3, h4⟩, h5⟩
theorem zfh.off {i d : Nat} {t : List (Nat × Nat)} {a b : Act} {oi : Oper} (h1 : ops[i]? = some oi) (h2 : oi.dst = some d) (h3 : kab oi (yielded ops a.tmps) = false) (h5 : zfh P ops S t (a.put (some d) undef) b) : zfh P ops S ((i, d) :: t) a b := ⟨oi, undef, h1, h2, Or.inr ⟨h3, rfl⟩, h5⟩
theorem rdy (i : Nat) {o : Oper} {fuel : Nat} {listed : Array Bool} {a : Act} {w : World} (hr : kaa md ops listed = [i]) (ho : ops[i]? = some o)
  (h : ∀ K' : Act → World → Prop, Shut (∀ a w, ((listed.setIfInBounds i true).getD k true = false → S w) → (((listed.setIfInBounds i true).getD k true = false → S w) → zcq P md ops zZ S k fuel (listed.setIfInBounds i true) a w) → K' a w) → if kab o (yielded ops a.tmps) = true then Oper.wp P o a w K' zZ else K' (a.put o.dst undef) w) :
  zcq P md ops zZ S k (fuel + 1) listed a w := zeg hr (by simp) (zaz.cons ho h zaz.nil)
theorem kgo {c : Prop} {X K' : Act → World → Prop} {a : Act} {w : World} (hK : Shut (∀ a w, (c → S w) → ((c → S w) → X a w) → K' a w)) (hc : c) (hS : S w) (h : S w → X a w) : K' a w := hK.out a w (fun _ => hS) (fun hx => h (hx hc))
theorem za5 {c : Prop} {X K' : Act → World → Prop} {a : Act} {w : World} (hK : Shut (∀ a w, (c → S w) → ((c → S w) → X a w) → K' a w)) (hc : ¬ c) (h : X a w) : K' a w := hK.out a w (fun hx => absurd hx hc) (fun _ => h)
theorem zb9 {id : Nat} {a : Act} {w : World} (k : Nat) (hm : P.follows .mixedOrders = true) (hS : S w.drew)
  (h : S w.drew → zcq P .any ops zZ S k ops.size (Array.replicate ops.size false) a w.drew) : (Code.region id ops true).wp P zZ a w :=
 wp_region_any hm (zla _ _ _ _ (h hS))
end
structure zbs (w0 : World) (la : Option Addr) (nl lc : Nat) (bt nx : Int) (oa : Option Addr) (no oc : Nat) (B : Nat) (a2 : Option Addr) (c2 : Nat) (Y2 : List XL) (L : List R3) (w : World) (a3 : Option Addr) (n3 c3 : Nat) (X2 : List XO) (O : List O4) : Prop where
 hb : Blk w w0.heap.size #[G la nl lc, E J bt, E J nx, G oa no oc] 29
 rb : Blk w (w0.heap.size + 1) #[G U 0 0, E J 0, E J 0, G U 0 0] 29
 ob : Blk w B #[G a2 nl c2, E J bt, E J nx, G a3 n3 c3] 29
 hd : zbg w (w0.heap.size + 2) a2 nl c2 Y2 a3 n3 c3 X2 L O
 bel : Z w0.heap.size w0 w
 ne : w0.heap.size + 2 ≤ B
section
variable {w0 w w' : World} {la : Option Addr} {nl lc : Nat} {bt nx : Int} {oa : Option Addr} {no oc : Nat} {B : Nat} {a2 : Option Addr} {c2 : Nat} {Y2 : List XL} {L : List R3} {a3 : Option Addr} {n3 c3 : Nat} {X2 : List XO} {O : List O4}
theorem zbs.below (H : zbs w0 la nl lc bt nx oa no oc B a2 c2 Y2 L w a3 n3 c3 X2 O) (hb : Z w.heap.size w w') : zbs w0 la nl lc bt nx oa no oc B a2 c2 Y2 L w' a3 n3 c3 X2 O :=
 ⟨H.hb.below hb H.hb.lt, H.rb.below hb H.rb.lt, H.ob.below hb H.ob.lt, H.hd.below hb, H.bel.trans (hb.mono H.bel.size), H.ne⟩
theorem zbs.box (H : zbs w0 la nl lc bt nx oa no oc B a2 c2 Y2 L w a3 n3 c3 X2 O) {N i : Nat} {cs : Array Value} (hb : Blk w N cs 58) (hne : kac (G a3 n3 c3) ≠ some N) (h0 : w0.heap.size + 2 ≤ N) (hB : N ≠ B) (u : Value) : zbs w0 la nl lc bt nx oa no oc B a2 c2 Y2 L (r w ⟨N, i, U⟩ u) a3 n3 c3 X2 O :=
 ⟨H.hb.setOther (a := ⟨N, i, U⟩) (by simp; omega) _, H.rb.setOther (a := ⟨N, i, U⟩) (by simp; omega) _, H.ob.setOther (a := ⟨N, i, U⟩) (by simpa using Ne.symm hB) _, H.hd.box hb hne u, H.bel.setCell (by simp; omega) _, H.ne⟩
theorem zbs.push (H : zbs w0 la nl lc bt nx oa no oc B a2 c2 Y2 L w a3 n3 c3 X2 O) {w4 : World} (hg : w.grownBy w4 (kac (G a3 n3 c3))) {a4 : Option Addr} {n4 c4 : Nat} {z : XO} (h4 : za 58 4 zaj w4 (w0.heap.size + 2) (G a4 n4 c4) (X2 ++ [z])) (hp : zai (w0.heap.size + 2) w z.2.1.1.1 z.2.1.2) (hi : zdx (w0.heap.size + 2) w z.2.2.2.1.1 z.2.2.2.2) :
  zbs w0 la nl lc bt nx oa no oc B a2 c2 Y2 L (r w4 ⟨B, 3, U⟩ (G a4 n4 c4)) a4 n4 c4 (X2 ++ [z]) (O ++ [zw z]) := by
 have hne : ∀ b, b < w0.heap.size + 2 → kac (G a3 n3 c3) ≠ some b := fun b hb e => by have := H.hd.opn.base _ e; omega
 have o4 := H.ob.keptT hg (H.hd.opn.grownT (by decide));have hB := H.ne;exact ⟨(H.hb.keptNe hg (hne _ (by omega))).setOther (a := ⟨B, 3, U⟩) (by simp; omega) _, (H.rb.keptNe hg (hne _ (by omega))).setOther (a := ⟨B, 3, U⟩) (by simp; omega) _, o4.set 3 _, (H.hd.push hg h4 hp hi).set o4 (by decide) (by decide) (by decide) (by decide) _, (H.bel.grown hg H.bel.size (fun k hk => by have := H.hd.opn.base _ hk; omega)).setCell (by simp; omega) _, hB⟩
end
theorem zf7 (la oa : Option Addr) (nl lc no oc : Nat) (bt nx : Int) (Y : List XL) (X : List XO) (L : List R3) (O : List O4) (w : World) (H : zbh (fun _ => False) w la nl Y oa no X L O) (hf : zcf O) (hok : OkL L) (hl : L.length ≤ 900000) :
  Calls Tryz.prog 12 #[.agg #[G la nl lc, E J bt, E J nx, G oa no oc]] w fun e w' => ∃ v', e = .returned v' ∧ (∃ a2 n2 c2 Y2 a3 n3 c3 X2, v' = .agg #[G a2 n2 c2, E J bt, E J nx, G a3 n3 c3] ∧ zbg w' w.heap.size a2 n2 c2 Y2 a3 n3 c3 X2 L O ∧ zby w' w.heap.size X2) ∧ Z w.heap.size w w' := by
 have hXO : X.length = O.length := by rw [← H.osays, List.length_map]
 have hYl : Y.length ≤ 900000 := by rw [← H.says, List.length_map] at hl; exact hl
 have hnl : no ≤ 100000 := by have h1 := H.on; have h2 := hf.1; omega
 have hbX := zaw w (T #[G la nl lc, E J bt, E J nx, G oa no oc] 29) (T #[G U 0 0, E J 0, E J 0, G U 0 0] 29);have hN0 : Blk ((w.alloc (T #[G la nl lc, E J bt, E J nx, G oa no oc] 29)).alloc (T #[G U 0 0, E J 0, E J 0, G U 0 0] 29)) w.heap.size #[G la nl lc, E J bt, E J nx, G oa no oc] 29 := (Blk.new _ _ _).alloc _;have hN1 : Blk ((w.alloc (T #[G la nl lc, E J bt, E J nx, G oa no oc] 29)).alloc (T #[G U 0 0, E J 0, E J 0, G U 0 0] 29)) (w.heap.size + 1) #[G U 0 0, E J 0, E J 0, G U 0 0] 29 := zao _ _ _;have hsX : ((w.alloc (T #[G la nl lc, E J bt, E J nx, G oa no oc] 29)).alloc (T #[G U 0 0, E J 0, E J 0, G U 0 0] 29)).heap.size = w.heap.size + 2 := by simp
 have H1 := H.below hbX;have hrec : zcc ((w.alloc (T #[G la nl lc, E J bt, E J nx, G oa no oc] 29)).alloc (T #[G U 0 0, E J 0, E J 0, G U 0 0] 29)) la Y := ⟨H1.log, fun y hy => (H1.parts y hy).1⟩;go_enter Tryz.func12, Tryz.ntmps12
 go_upto_region 1 with fail
 generalize ((w.alloc (T #[G la nl lc, E J bt, E J nx, G oa no oc] 29)).alloc (T #[G U 0 0, E J 0, E J 0, G U 0 0] 29)) = V at *;have HG := zE H1 hf hok hrec hYl;have HV := zE hbX hN0 hN1 hsX hXO;have HW := zD hXO hf H.on H;clear H hf hok hl hbX hN0 hN1 hsX H1 hrec hXO hYl;have hX1 : Z V.heap.size V V.drew := (Below.refl _ _).drew;have hX2 : Z V.heap.size V (V.drew.alloc (T #[G U 0 0, E J 0, E J 0, G U 0 0] 29)) := hX1.alloc (by simp) _;have HK : Q (∀ w', Z V.heap.size V w' → (w'.cell? ⟨w.heap.size, 0, U⟩ = some (G la nl lc) ∧ w'.cell? ⟨w.heap.size, 1, U⟩ = some (E J bt) ∧ w'.cell? ⟨w.heap.size, 2, U⟩ = some (E J nx)) ∧ True) := fun w' hb => ⟨⟨(HV.out.2.1.below hb HV.out.2.1.lt).cell 0, (HV.out.2.1.below hb HV.out.2.1.lt).cell 1, (HV.out.2.1.below hb HV.out.2.1.lt).cell 2⟩, trivial⟩
 go_cut [3] (fun p wx => ∃ (B : Nat) (a2 : Option Addr) (c2 : Nat) (Y2 : List XL), p = .pointer (some ⟨B, 0, U⟩) ∧ Q (V.heap.size ≤ B ∧ Blk wx B #[G a2 nl c2, E J bt, E J nx, G U 0 0] 29 ∧ zc7 wx V.heap.size (G a2 nl c2) Y2 ∧ Y2.map ze = L ∧ Z V.heap.size V wx))
 case first =>
  refine zb9 (S := fun w' => (w'.cell? ⟨w.heap.size, 0, U⟩ = some (G la nl lc) ∧ w'.cell? ⟨w.heap.size, 1, U⟩ = some (E J bt) ∧ w'.cell? ⟨w.heap.size, 2, U⟩ = some (E J nx))) 9 (by kernel_rfl) (HK.out _ hX1).1 (fun hHeld => ?_);refine tks 6 [(0, 6), (3, 9), (5, 11), (1, 7), (4, 10), (6, 12)] (b := ?_) rfl (by decide +kernel) (fun _ _ _ _ _ h => h) ?_ hHeld ?_;rotate_left 1
  ·iterate 6 (refine zo.cons (v := ?_) rfl rfl (by rfl) ?_ ?_; rotate_left 1; (intro w h; (try dsimp only at h); go_simp; try with_reducible rfl))
   exact zo.nil
  refine zeg (rs := [2, 8]) (by kernel_rfl) (by simp) ?_;refine zaz.cons (o := _) rfl (fun K hK => ?_) ?_
  ·go_simp
   (go_at_call 44; refine (zj2 la Y lc nl _ HG.out.1.ln (by have := HG.out.2.2.2.2; omega) (by rw [HG.out.1.says]; exact HG.out.2.2.1) ((HG.out.2.2.2.1.below hX1))).mono ?_; rintro e wA ⟨a2, c2, Y2, rfl, hY2, hr2, hbA⟩; have hXA : Z V.heap.size V wA := hX1.trans (hbA.mono hX1.size); have hXAs := hXA.size; have hr2' : zc7 wA V.heap.size (G a2 nl c2) Y2 := ⟨hr2.1.mono hX1.size, fun y hy => (hr2.2 y hy).mono hX1.size⟩; have hYL : Y2.map ze = L := (by rw [hY2, HG.out.1.says]))
   go_wp2_with fail
   refine kgo hK (by decide +kernel) ((HK.out _ hXA).1) (fun hHeld => ?_);clear hK K;refine tks 1 [(7, 13)] (b := ?_) rfl (by decide +kernel) (fun _ _ _ _ _ h => h) ?_ hHeld ?_;rotate_left 1
   ·iterate 1 (refine zo.cons (v := ?_) rfl rfl (by rfl) ?_ ?_; rotate_left 1; (intro w h; (try dsimp only at h); go_simp; try with_reducible rfl))
    exact zo.nil
   refine rdy 8 (by kernel_rfl) rfl (fun K hK => ?_);go_simp;refine kgo hK (by decide +kernel) ((HK.out _ (hXA.alloc hXAs _)).1) (fun hHeld => ?_);clear hK K;refine rdy 9 (by kernel_rfl) rfl (fun K hK => ?_);go_simp;refine za5 hK (by decide +kernel) ?_;clear hK K hHeld;refine zbd (by kernel_rfl) ?_ _;have hbb := zh wA (T #[G a2 nl c2, E J bt, E J nx, G U 0 0] 29);have HF : Q (V.heap.size ≤ wA.heap.size ∧ Blk (wA.alloc (T #[G a2 nl c2, E J bt, E J nx, G U 0 0] 29)) wA.heap.size #[G a2 nl c2, E J bt, E J nx, G U 0 0] 29 ∧ zc7 (wA.alloc (T #[G a2 nl c2, E J bt, E J nx, G U 0 0] 29)) V.heap.size (G a2 nl c2) Y2 ∧ Y2.map ze = L ∧ Z V.heap.size V (wA.alloc (T #[G a2 nl c2, E J bt, E J nx, G U 0 0] 29))) := ⟨hXAs, Blk.new _ _ _, ⟨hr2'.1.below hbb (Nat.le_refl _), fun y hy => (hr2'.2 y hy).calm (zg.below hbb (Nat.le_refl _))⟩, hYL, hXA.alloc hXAs _⟩;clear hbb hr2 hr2' hXA hbA;go_wp2_with fail
   go_meet
   case rel => exact ⟨_, a2, c2, Y2, rfl, HF⟩
  refine zaz.cons (o := _) rfl (fun K hK => ?_) zaz.nil
  ·go_simp
   refine kgo hK (by decide +kernel) ((HK.out _ hX2).1) (fun hHeld => ?_);clear hK K;refine rdy 2 (by kernel_rfl) rfl (fun K hK => ?_);go_simp;(go_at_call 44; refine (zj2 la Y lc nl _ HG.out.1.ln (by have := HG.out.2.2.2.2; omega) (by rw [HG.out.1.says]; exact HG.out.2.2.1) ((HG.out.2.2.2.1.below hX2))).mono ?_; rintro e wA ⟨a2, c2, Y2, rfl, hY2, hr2, hbA⟩; have hXA : Z V.heap.size V wA := hX2.trans (hbA.mono hX2.size); have hXAs := hXA.size; have hr2' : zc7 wA V.heap.size (G a2 nl c2) Y2 := ⟨hr2.1.mono hX2.size, fun y hy => (hr2.2 y hy).mono hX2.size⟩; have hYL : Y2.map ze = L := (by rw [hY2, HG.out.1.says]))
   go_wp2_with fail
   refine kgo hK (by decide +kernel) ((HK.out _ hXA).1) (fun hHeld => ?_);clear hK K
   have hzB : Blk wA V.heap.size #[G U 0 0, E J 0, E J 0, G U 0 0] 29 := by
    have h := (Blk.new V.drew #[G U 0 0, E J 0, E J 0, G U 0 0] 29).below hbA (by simp)
    simpa using h
   obtain ⟨z0, z1, z2, z3⟩ := hzB.cells4;obtain ⟨q0, q1, q2, q3⟩ := hzB.free4;have hzl := hzB.lt;refine tks 1 [(7, 13)] (b := ?_) rfl (by decide +kernel) (fun _ _ _ _ _ h => h) ?_ hHeld ?_;rotate_left 1
   ·iterate 1 (refine zo.cons (v := ?_) rfl rfl (by rfl) ?_ ?_; rotate_left 1; (intro w h; (try dsimp only at h); go_simp; try with_reducible rfl))
    exact zo.nil
   refine rdy 9 (by kernel_rfl) rfl (fun K hK => ?_);go_simp;refine za5 hK (by decide +kernel) ?_;clear hK K hHeld;refine zbd (by kernel_rfl) ?_ _;have hk4 := zb0 hzB (G a2 nl c2) (E J bt) (E J nx) (G U 0 0)
   have HF : Q (V.heap.size ≤ V.heap.size ∧ Blk (r (r (r (r wA ⟨V.heap.size, 0, U⟩ (G a2 nl c2)) ⟨V.heap.size, 1, U⟩ (E J bt)) ⟨V.heap.size, 2, U⟩ (E J nx)) ⟨V.heap.size, 3, U⟩ (G U 0 0)) V.heap.size #[G a2 nl c2, E J bt, E J nx, G U 0 0] 29 ∧ zc7 (r (r (r (r wA ⟨V.heap.size, 0, U⟩ (G a2 nl c2)) ⟨V.heap.size, 1, U⟩ (E J bt)) ⟨V.heap.size, 2, U⟩ (E J nx)) ⟨V.heap.size, 3, U⟩ (G U 0 0)) V.heap.size (G a2 nl c2) Y2 ∧ Y2.map ze = L ∧ Z V.heap.size V (r (r (r (r wA ⟨V.heap.size, 0, U⟩ (G a2 nl c2)) ⟨V.heap.size, 1, U⟩ (E J bt)) ⟨V.heap.size, 2, U⟩ (E J nx)) ⟨V.heap.size, 3, U⟩ (G U 0 0))) := by
    refine ⟨Nat.le_refl _, hk4.1, ⟨?_, fun y hy => (hr2'.2 y hy).calm ?_⟩, hYL, hXA.trans (hk4.2.below hXAs (fun b hb => by subst hb; exact Nat.le_refl _))⟩
    ·exact ((((hr2'.1.setOther (a := ⟨V.heap.size, 0, U⟩) hzB (by decide) _).setOther (a := ⟨V.heap.size, 1, U⟩) (hzB.set 0 _) (by decide) _).setOther (a := ⟨V.heap.size, 2, U⟩) ((hzB.set 0 _).set 1 _) (by decide) _).setOther (a := ⟨V.heap.size, 3, U⟩) (((hzB.set 0 _).set 1 _).set 2 _) (by decide) _)
    ·exact (((zg.setCell (a := ⟨V.heap.size, 0, U⟩) hzB (by decide) _).trans (zg.setCell (a := ⟨V.heap.size, 1, U⟩) (hzB.set 0 _) (by decide) _)).trans (zg.setCell (a := ⟨V.heap.size, 2, U⟩) ((hzB.set 0 _).set 1 _) (by decide) _)).trans (zg.setCell (a := ⟨V.heap.size, 3, U⟩) (((hzB.set 0 _).set 1 _).set 2 _) (by decide) _)
   clear hk4 hr2 hr2' hXA hbA hzB z0 z1 z2 z3 q0 q1 q2 q3 hzl;generalize (r (r (r (r wA ⟨V.heap.size, 0, U⟩ (G a2 nl c2)) ⟨V.heap.size, 1, U⟩ (E J bt)) ⟨V.heap.size, 2, U⟩ (E J nx)) ⟨V.heap.size, 3, U⟩ (G U 0 0)) = wZ at *;go_wp2_with fail
   go_meet
   case rel => exact ⟨_, a2, c2, Y2, rfl, HF⟩
 case rest =>
  obtain ⟨B, a2, c2, Y2, rfl, HC⟩ := hcut;clear HK hX1 hX2;have H0 : Q (zbs w la nl lc bt nx oa no oc B a2 c2 Y2 L wc U 0 0 [] ([])) := ⟨HV.out.2.1.below HC.out.2.2.2.2 HV.out.2.1.lt, HV.out.2.2.1.below HC.out.2.2.2.2 HV.out.2.2.1.lt, HC.out.2.1, ⟨by rw [← HV.out.2.2.2.1]; exact HC.out.2.2.1, HC.out.2.2.2.1, za.nil _ _, rfl, (fun x hx => by cases hx)⟩, HV.out.1.trans (HC.out.2.2.2.2.mono HV.out.1.size), by have h1 := HC.out.1; have h2 := HV.out.2.2.2.1; omega⟩;have x3 := H0.out.hb.cell 3;simp only [kae, kaf, kag] at x3
  have l0 := H0.out.hb.lt;clear HC HV HG;go_wp2;clear x3 l0;go_loopw [17] (fun i w' => ∃ (k : Nat) (a3 : Option Addr) (n3 c3 : Nat) (X2 : List XO), k ≤ no ∧ i = E J k ∧ Q (zbs w la nl lc bt nx oa no oc B a2 c2 Y2 L w' a3 n3 c3 X2 (O.take k) ∧ zby w' (w.heap.size + 2) X2)) (fun i _ => no - (intOf i).toNat)
  case atStart => exact ⟨0, U, 0, 0, [], Nat.zero_le _, rfl, H0.out, zby.nil _ _⟩
  case round =>
   obtain ⟨k, a3, n3, c3, X2, hk, rfl, hHP⟩ := hrel;have hH := zA hHP.out.1;have hHD := zA hHP.out.2;clear hHP;by_cases hlt : k < no
   ·have hkX : k < X.length := by have := HW.out.2.2.1; omega
    have hkO : k < O.length := by have := HW.out.1; omega
    have hOk : O[k] = zw X[k] := by
     have : O = X.map zw := HW.out.2.2.2.osays.symm;subst this;rw [List.getElem_map]
    have hfk := HW.out.2.1.2 O[k] (List.getElem_mem hkO);have HT : Q (O.take (k + 1) = O.take k ++ [zw X[k]]) := by show _ = _; rw [zav hkO, hOk]
    have hop := HW.out.2.2.2.oparts _ (List.getElem_mem hkX);obtain ⟨g, o, rfl, hg, d0, d1, d2, d3, hq⟩ := ((HW.out.2.2.2.below hH.out.bel).opns.lies).get hkX;rw [hOk] at hfk;generalize X[k] = x at *;obtain ⟨dd, ⟨⟨pa, pc⟩, l⟩, dec, ⟨ha, hc⟩, hd⟩ := x;simp only [zw] at d0 d1 d2 d3 hfk hop HT
    obtain ⟨ln, hn, HLL⟩ : ∃ ln hn, Q (l.length = ln ∧ hd.length = hn) := ⟨_, _, rfl, rfl⟩;rw [HLL.out.1] at d1;rw [HLL.out.2] at d3;have HQ : Q (zae w pa l ∧ zi 1 zu w ha hd ∧ l.length ≤ 4 ∧ hd.length ≤ 100000 ∧ X2.length ≤ k) := ⟨hop.1.1, hop.2.1, hfk.1, hfk.2, by have h1 := hH.out.hd.osays; rw [← List.length_map (f := zw), h1, List.length_take]; omega⟩;have H1 : Q (zbs w la nl lc bt nx (some ⟨g, o, U⟩) no oc B a2 c2 Y2 L (wr.alloc (T #[E J dd, G pa ln pc, .bool dec, G ha hn hc] 58)) a3 n3 c3 X2 (O.take k) ∧ Blk (wr.alloc (T #[E J dd, G pa ln pc, .bool dec, G ha hn hc] 58)) wr.heap.size #[E J dd, G pa ln pc, .bool dec, G ha hn hc] 58 ∧ kac (G a3 n3 c3) ≠ some wr.heap.size ∧ wr.heap.size ≠ B ∧ w.heap.size + 2 ≤ wr.heap.size) := ⟨hH.out.below (zh wr _), Blk.new _ _ _, hH.out.hd.opn.other (Nat.le_refl _), by have := hH.out.ob.lt; omega, by have := hH.out.rb.lt; omega⟩;go_upto_region 5 with fail
    have HD1 : Q (zby (wr.alloc (T #[E J dd, G pa ln pc, .bool dec, G ha hn hc] 58)) (w.heap.size + 2) X2) := hHD.out.below (zh wr _);clear d0 d1 d2 d3 hg hH hHD hq hop hfk hOk;generalize wr.alloc (T #[E J dd, G pa ln pc, .bool dec, G ha hn hc] 58) = A at *;have b1 := H1.out.2.1.cell 1;simp only [kae, kaf, kag] at b1
    have lb := H1.out.2.1.lt;go_wp2_with fail
    clear b1 lb;refine (zgo pa l pc ln A HLL.out.1.symm (by have := HQ.out.2.2.1; omega) (HQ.out.1.below H1.out.1.bel)).mono ?_;rintro e w2 ⟨a5, c5, rfl, hT5, hb5⟩;have hx2 := H1.out.2.1.below hb5 H1.out.2.1.lt;have H3 : Q (zbs w la nl lc bt nx (some ⟨g, o, U⟩) no oc B a2 c2 Y2 L (r w2 ⟨wr.heap.size, 1, U⟩ (G a5 ln c5)) a3 n3 c3 X2 (O.take k) ∧ Blk (r w2 ⟨wr.heap.size, 1, U⟩ (G a5 ln c5)) wr.heap.size #[E J dd, G a5 ln c5, .bool dec, G ha hn hc] 58 ∧ zai (w.heap.size + 2) (r w2 ⟨wr.heap.size, 1, U⟩ (G a5 ln c5)) a5 l) := ⟨(H1.out.1.below hb5).box hx2 H1.out.2.2.1 H1.out.2.2.2.2 H1.out.2.2.2.1 _, hx2.set 1 _, (hT5.mono (by have := H1.out.1.rb.lt; omega)).calm (zg.setCell (a := ⟨wr.heap.size, 1, U⟩) hx2 (by decide) _)⟩;have b1 := hx2.cell 1;simp only [kae, kaf, kag] at b1
    have f1 := hx2.free 1;have lb := hx2.lt;have HD2 : Q (zby (r w2 ⟨wr.heap.size, 1, U⟩ (G a5 ln c5)) (w.heap.size + 2) X2) := (HD1.out.below hb5).set hx2 (by decide) _;go_upto_region 6 with fail
    clear b1 f1 lb hx2 hT5 hb5 HD1;generalize (r w2 ⟨wr.heap.size, 1, U⟩ (G a5 ln c5)) = A2 at *;have b3 := H3.out.2.1.cell 3;simp only [kae, kaf, kag] at b3
    have lb := H3.out.2.1.lt;go_wp2_with fail
    clear b3 lb;refine (zns ha hd hc hn A2 HLL.out.2.symm (by have := HQ.out.2.2.2.1; omega) (HQ.out.2.1.below H3.out.1.bel)).mono ?_;rintro e w3 ⟨a6, c6, rfl, hO6, hb6⟩;have hx3 := H3.out.2.1.below hb6 H3.out.2.1.lt;have H5 : Q (zbs w la nl lc bt nx (some ⟨g, o, U⟩) no oc B a2 c2 Y2 L (r w3 ⟨wr.heap.size, 3, U⟩ (G a6 hn c6)) a3 n3 c3 X2 (O.take k) ∧ Blk (r w3 ⟨wr.heap.size, 3, U⟩ (G a6 hn c6)) wr.heap.size #[E J dd, G a5 ln c5, .bool dec, G a6 hn c6] 58 ∧ zai (w.heap.size + 2) (r w3 ⟨wr.heap.size, 3, U⟩ (G a6 hn c6)) a5 l ∧ zdx (w.heap.size + 2) (r w3 ⟨wr.heap.size, 3, U⟩ (G a6 hn c6)) a6 hd) := ⟨(H3.out.1.below hb6).box hx3 H1.out.2.2.1 H1.out.2.2.2.2 H1.out.2.2.2.1 _, hx3.set 3 _, (H3.out.2.2.calm (zg.below hb6 (Nat.le_refl _))).calm (zg.setCell (a := ⟨wr.heap.size, 3, U⟩) hx3 (by decide) _), (hO6.intsT.mono (by have := H3.out.1.rb.lt; omega)).calm (zg.setCell (a := ⟨wr.heap.size, 3, U⟩) hx3 (by decide) _)⟩;have b3 := hx3.cell 3;simp only [kae, kaf, kag] at b3
    have f3 := hx3.free 3;have lb := hx3.lt;have HD3 : Q (zby (r w3 ⟨wr.heap.size, 3, U⟩ (G a6 hn c6)) (w.heap.size + 2) X2 ∧ za 3 1 zu (r w3 ⟨wr.heap.size, 3, U⟩ (G a6 hn c6)) A2.heap.size (G a6 hn c6) hd ∧ (∀ x ∈ X2, ∀ b, (hvO x).ownBlock = some b → b < A2.heap.size) ∧ w.heap.size + 2 ≤ A2.heap.size) := ⟨(HD2.out.below hb6).set hx3 (by decide) _, hO6.setOther (a := ⟨wr.heap.size, 3, U⟩) hx3 (by decide) _, HD2.out.lt, by have := H3.out.1.rb.lt; omega⟩;go_upto_region 7 with fail
    clear b3 f3 lb hx3 hO6 hb6 H3 HD2;generalize (r w3 ⟨wr.heap.size, 3, U⟩ (G a6 hn c6)) = A3 at *;obtain ⟨b0, b1, b2, b3⟩ := H5.out.2.1.cells4;obtain ⟨r0, r1, r2, r3⟩ := H5.out.1.ob.cells4;have lb := H5.out.2.1.lt;have lo := H5.out.1.ob.lt;have hX2 : X2.length ≤ 100000 := by have := HQ.out.2.2.2.2; omega
    have hsz : w.heap.size + 2 ≤ A3.heap.size := by have := H5.out.1.rb.lt; omega
    have H6 : Q (zbs w la nl lc bt nx (some ⟨g, o, U⟩) no oc B a2 c2 Y2 L (A3.alloc (T #[E J dd, G a5 ln c5, .bool dec, G a6 hn c6] 58)) a3 n3 c3 X2 (O.take k)) := H5.out.1.below (zh A3 _);go_wp2_with (at_builtin; refine zbi zaq oneQ Tryz.underlying27 zd9 rfl (by decide) _ rfl _ _ rfl (w.heap.size + 2) _ X2 rfl H6.out.hd.opn (some ⟨A3.heap.size, 0, U⟩) 1 1 [(dd, ((a5, c5), l), dec, ((a6, c6), hd))] rfl rfl (zi.one (Blk.new A3 _ _) (by simp [zaj, HLL.out.1, HLL.out.2])) (by unfold maxLen; simp; omega) (by simp; omega) (by simp; omega) ?_; intro a7 n7 c7 w7 hown7 hn7 hgrow7 hat7; have o7 := H6.out.ob.keptT hgrow7 (H6.out.hd.opn.grownT (by decide)); have p3 := o7.cell 3; have q3 := o7.free 3; have l7 := o7.lt; simp only [kae, kaf, kag] at p3; have hcI := H6.out.hd.opn.grownT (t := 3) (by decide); have HDF : Q (zby (r w7 ⟨B, 3, U⟩ (G a7 n7 c7)) (w.heap.size + 2) (X2 ++ [(dd, ((a5, c5), l), dec, ((a6, c6), hd))])) := ((((HD3.out.1.below (zh A3 _)).grown hgrow7 hcI).push (z := (dd, ((a5, c5), l), dec, ((a6, c6), hd))) (by show za _ _ _ _ _ (G a6 hd.length c6) hd; rw [HLL.out.2]; exact (HD3.out.2.1.below (zh A3 _) (Nat.le_refl _)).keptT hgrow7 hcI) HD3.out.2.2.2 HD3.out.2.2.1).set o7 (by decide) _); have HF : Q _ := H6.out.push hgrow7 hown7 (H5.out.2.2.1.calm (zg.alloc _ _ _)) (H5.out.2.2.2.calm (zg.alloc _ _ _)); clear hn7 hat7 hgrow7 hown7 o7 hcI)
    clear p3 q3 l7 b0 b1 b2 b3 r0 r1 r2 r3;go_wp2;go_roundw
    case rel => exact ⟨k + 1, a7, n7, c7, _, by omega, by go_num, by rw [HT.out]; exact ⟨HF.out, HDF.out⟩⟩
    case measure => simp [intOf]; omega
   ·have hO : O.take k = O := List.take_of_length_le (by have h1 := HW.out.1; have h2 := HW.out.2.2.1; omega)
    rw [hO] at hH;clear hO;obtain ⟨r0, r1, r2, r3⟩ := hH.out.ob.cells4;obtain ⟨t0, t1, t2, t3⟩ := hH.out.rb.cells4;obtain ⟨y0, y1, y2, y3⟩ := hH.out.rb.free4;have lo := hH.out.ob.lt;have lr := hH.out.rb.lt;have z := hH.out.rb;have hk4 := zb0 z (G a2 nl c2) (E J bt) (E J nx) (G a3 n3 c3);obtain ⟨e0, e1, e2, e3⟩ := hk4.1.cells4;have HF : Q ((zbg (r (r (r (r wr ⟨w.heap.size + 1, 0, U⟩ (G a2 nl c2)) ⟨w.heap.size + 1, 1, U⟩ (E J bt)) ⟨w.heap.size + 1, 2, U⟩ (E J nx)) ⟨w.heap.size + 1, 3, U⟩ (G a3 n3 c3)) w.heap.size a2 nl c2 Y2 a3 n3 c3 X2 L O ∧ zby (r (r (r (r wr ⟨w.heap.size + 1, 0, U⟩ (G a2 nl c2)) ⟨w.heap.size + 1, 1, U⟩ (E J bt)) ⟨w.heap.size + 1, 2, U⟩ (E J nx)) ⟨w.heap.size + 1, 3, U⟩ (G a3 n3 c3)) w.heap.size X2) ∧ Z w.heap.size w (r (r (r (r wr ⟨w.heap.size + 1, 0, U⟩ (G a2 nl c2)) ⟨w.heap.size + 1, 1, U⟩ (E J bt)) ⟨w.heap.size + 1, 2, U⟩ (E J nx)) ⟨w.heap.size + 1, 3, U⟩ (G a3 n3 c3))) := ⟨⟨(((((hH.out.hd.mono (by omega : w.heap.size ≤ w.heap.size + 2)).set z (by decide) (by decide) (by decide) (by decide) _).set (z.set 0 _) (by decide) (by decide) (by decide) (by decide) _).set ((z.set 0 _).set 1 _) (by decide) (by decide) (by decide) (by decide) _).set (((z.set 0 _).set 1 _).set 2 _) (by decide) (by decide) (by decide) (by decide) _), (((((hHD.out.mono (by omega : w.heap.size ≤ w.heap.size + 2)).set z (by decide) _).set (z.set 0 _) (by decide) _).set ((z.set 0 _).set 1 _) (by decide) _).set (((z.set 0 _).set 1 _).set 2 _) (by decide) _)⟩, hH.out.bel.trans (hk4.2.below hH.out.bel.size (fun b hb => by omega))⟩
    clear z hk4 hH hHD;go_wp2_with fail
    clear r0 r1 r2 r3 t0 t1 t2 t3 y0 y1 y2 y3 lo lr;generalize (r (r (r (r wr ⟨w.heap.size + 1, 0, U⟩ (G a2 nl c2)) ⟨w.heap.size + 1, 1, U⟩ (E J bt)) ⟨w.heap.size + 1, 2, U⟩ (E J nx)) ⟨w.heap.size + 1, 3, U⟩ (G a3 n3 c3)) = Z9 at *;refine bodyPost_ret (v := .agg #[G a2 nl c2, E J bt, E J nx, G a3 n3 c3]) ?_ rfl ⟨_, rfl, ⟨a2, nl, c2, Y2, a3, n3, c3, X2, rfl, HF.out.1.1, HF.out.1.2⟩, HF.out.2⟩;simp [results, Tryz.results12, go_sem, e0, e1, e2, e3]
theorem zil (la oa : Option Addr) (nl lc no oc : Nat) (bt nx : Int) (Y : List XL) (X : List XO) (L : List R3) (O : List O4) (w : World) (H : zbh (fun _ => False) w la nl Y oa no X L O) (hf : zcf O) (hok : OkL L) (hl : L.length ≤ 900000) :
  Calls Tryz.prog 12 #[.agg #[G la nl lc, E J bt, E J nx, G oa no oc]] w fun e w' => ∃ v', e = .returned v' ∧ (∃ a2 n2 c2 Y2 a3 n3 c3 X2, v' = .agg #[G a2 n2 c2, E J bt, E J nx, G a3 n3 c3] ∧ zbg w' w.heap.size a2 n2 c2 Y2 a3 n3 c3 X2 L O) ∧ Z w.heap.size w w' := by
 refine (zf7 la oa nl lc no oc bt nx Y X L O w H hf hok hl).mono ?_;rintro e w' ⟨v', rfl, ⟨a2, n2, c2, Y2, a3, n3, c3, X2, rfl, h, _⟩, hb⟩;exact ⟨_, rfl, ⟨a2, n2, c2, Y2, a3, n3, c3, X2, rfl, h⟩, hb⟩
end Go.Proofs.YtpcnlifmkhagkaaGreat
