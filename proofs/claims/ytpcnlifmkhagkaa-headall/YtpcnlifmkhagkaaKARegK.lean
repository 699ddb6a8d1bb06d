import Derived.Deep.RegionHeld3
set_option maxRecDepth 20000
set_option maxHeartbeats 20000000
namespace Go.Proofs.Ytpcnlifmkhagkaa
open Go.Region renaming ready → kaa, wanted → kab
open _root_.Bool renaming and_eq_true → kac
section
variable {P : Program} {ops : Array Oper} {zZ : Exit → Act → World → Prop} {md : Region.Mode} {S : World → Prop} {k : Nat}
def zcm (P : Program) (md : Region.Mode) (ops : Array Oper) (zZ : Exit → Act → World → Prop) (S : World → Prop) (k : Nat) : Nat → Array Bool → Act → World → Prop
 | 0, listed, a, w => kaa md ops listed = [] ∧ zZ .normal a w
 | fuel + 1, listed, a, w =>
  (kaa md ops listed = [] → zZ .normal a w) ∧
  ∀ i ∈ kaa md ops listed, wpOp P ops zZ i (fun a' w' => ((listed.setIfInBounds i true).getD k true = false → S w') ∧ zcm P md ops zZ S k fuel (listed.setIfInBounds i true) a' w') a w
theorem zkm : ∀ (fuel : Nat) (listed : Array Bool) (a : Act) (w : World), zcm P md ops zZ S k fuel listed a w → wpAny P md ops zZ fuel listed a w
 | 0, _, _, _, h => h
 | fuel + 1, _, _, _, h => ⟨h.1, fun i hi => wpOp_mono (fun a' w' h' => zkm fuel _ a' w' h'.2) (h.2 i hi)⟩
def zge (md : Region.Mode) (ops : Array Oper) (listed : Array Bool) : Prop :=
 ∀ (j : Nat) (o : Oper), ops[j]? = some o → listed.getD j false = true → ∀ e ∈ o.after, Region.binds md e = true → listed.getD e.on false = true
def zhk (md : Region.Mode) (ops : Array Oper) (listed : Array Bool) : Bool :=
 (List.range ops.size).all fun j => !listed.getD j false || match ops[j]? with
  | some o => o.after.all fun e => !Region.binds md e || listed.getD e.on false
  | none => true
theorem closed_of {listed : Array Bool} (h : zhk md ops listed = true) : zge md ops listed := by
 intro j o ho hl e he hb;simp only [zhk, List.all_eq_true, List.mem_range] at h
 have h1 := h j (Array.getElem?_eq_some_iff.1 ho).1;simp only [ho, hl, Bool.not_true, Bool.false_or, Array.all_eq_true_iff_forall_mem] at h1
 have h2 := h1 e he
 simpa [hb] using h2
theorem zge.set {listed : Array Bool} (h : zge md ops listed) {j : Nat} (hj : j ∈ kaa md ops listed) : zge md ops (listed.setIfInBounds j true) := by
 obtain ⟨h0, o, ho, qy⟩ := mem_ready.1 hj;intro i o' ho' hl e he hb;by_cases hij : i = j
 ·subst hij
  rw [ho] at ho';cases ho';exact getD_set_true (qy e he hb)
 ·rw [getD_set_ne false (Ne.symm hij)] at hl
  exact getD_set_true (h i o' ho' hl e he hb)
def ze8 (md : Region.Mode) (ops : Array Oper) : Nat → Nat → Nat → Bool
 | 0, _, _ => false
 | n + 1, j, i => match ops[j]? with
  | some o => o.after.any fun e => Region.binds md e && (e.on == i || ze8 md ops n e.on i)
  | none => false
theorem zls {listed : Array Bool} (hc : zge md ops listed) {i : Nat} : ∀ (n j : Nat), ze8 md ops n j i = true → listed.getD j false = true → listed.getD i false = true
 | 0, _, h, _ => by simp [ze8] at h
 | n + 1, j, h, hl => by
  unfold ze8 at h
  split at h
  ·rename_i o ho
   obtain ⟨e, he, hb⟩ := Array.any_eq_true'.1 h;simp only [kac, Bool.or_eq_true, beq_iff_eq] at hb
   have h1 := hc j o ho hl e he hb.1;rcases hb.2 with h2 | h2
   ·rw [← h2]; exact h1
   ·exact zls hc n _ h2 h1
  ·cases h
theorem zo7 {listed : Array Bool} (hc : zge md ops listed) {i j n : Nat} (hw : ze8 md ops n j i = true) (hj : j ∈ kaa md ops listed) : listed.getD i false = true := by
 obtain ⟨h0, o, ho, qy⟩ := mem_ready.1 hj
 cases n with
 | zero => simp [ze8] at hw
 | succ n =>
  unfold ze8 at hw
  simp only [ho] at hw
  obtain ⟨e, he, hb⟩ := Array.any_eq_true'.1 hw;simp only [kac, Bool.or_eq_true, beq_iff_eq] at hb
  have h1 := qy e he hb.1;rcases hb.2 with h2 | h2
  ·rw [← h2]; exact h1
  ·exact zls hc n _ h2 h1
theorem zk2 {listed : Array Bool} {i : Nat} (h0 : listed.getD i true = false) (h1 : listed.getD i false = true) : False := by
 rcases Nat.lt_or_ge i listed.size with h' | h'
 ·simp [h'] at h0 h1; rw [h0] at h1; cases h1
 ·simp [Array.getElem?_eq_none h'] at h1
theorem zpg {i n : Nat} {oi : Oper} {v : Value} (hi : ops[i]? = some oi) (hsel : ∀ (j : Nat) (o : Oper) cs b, ops[j]? = some o → o.op ≠ .select cs b)
  (hQ : ∀ c a w, zZ (.panic c) (a.put oi.dst v) w → zZ (.panic c) a w) (hik : i ≠ k) (hwt : ze8 md ops n k i = true) :
  ∀ (fuel : Nat) (listed : Array Bool) (a : Act) (w : World),
   (∀ j oj, ops[j]? = some oj → j ≠ i → listed.getD j true = false → (∀ e ∈ oj.after, Region.binds md e = true → e.on ≠ i) → oi.apart ops oj = true) →
   zge md ops listed → listed.getD k true = false → i ∈ kaa md ops listed → YieldsIf P ops S oi v a → S w →
   zcm P md ops zZ S k fuel (listed.setIfInBounds i true) (a.put oi.dst v) w → zcm P md ops zZ S k (fuel + 1) listed a w := by
 intro fuel
 induction fuel with
 | zero =>
  intro listed a w _ _ _ hr hy hS H;refine ⟨fun h => (by rw [h] at hr; cases hr), fun j hj => ?_⟩;by_cases hji : j = i
  ·subst hji; exact hy.wpOp hi hS ⟨fun _ => hS, H⟩
  ·have := ready_mono hj hji
   rw [H.1] at this;cases this
 | succ fuel ih =>
  intro listed a w hfree hc hkl hr hy hS H;refine ⟨fun h => (by rw [h] at hr; cases hr), fun j hj => ?_⟩;by_cases hji : j = i
  ·subst hji; exact hy.wpOp hi hS ⟨fun _ => hS, H⟩
  ·have hjk : j ≠ k := fun e => zk2 (mem_ready.1 hr).1 (zo7 hc hwt (e ▸ hj))
   have h1 := H.2 j (ready_mono hj hji);obtain ⟨hjun, oj, hoj, qy⟩ := mem_ready.1 hj
   have hnot : ∀ e ∈ oj.after, Region.binds md e = true → e.on ≠ i := fun e he hb heq => by
    have h1 := qy e he hb;have h0 := (mem_ready.1 hr).1;rw [heq] at h1;exact zk2 h0 h1
   have h2 := wpOp_putIf hoj (hfree j oj hoj hji hjun hnot) (fun cs b => hsel i oi cs b hi) (fun cs b => hsel j oj cs b hoj) hQ hy h1
   have hfree' : ∀ k ok, ops[k]? = some ok → k ≠ i → (listed.setIfInBounds j true).getD k true = false →
     (∀ e ∈ ok.after, Region.binds md e = true → e.on ≠ i) → oi.apart ops ok = true := fun k ok hk hki hun hno => by
    refine hfree k ok hk hki ?_ hno;by_cases hjk : j = k
    ·subst hjk; exact hjun
    ·rw [getD_set_ne true hjk] at hun; exact hun
   refine wpOp_mono (fun a' w' h3 => ?_) h2;have hS' := h3.2.1 (by rw [getD_set_ne true hjk, getD_set_ne true hik]; exact hkl);refine ⟨fun _ => hS', ih (listed.setIfInBounds j true) a' w' hfree' (hc.set hj) (by rw [getD_set_ne true hjk]; exact hkl) (ready_mono hr (Ne.symm hji)) h3.1 hS' ?_⟩;rw [Array.setIfInBounds_comm _ _ hji];exact h3.2.2
theorem zpf {i : Nat} {oi : Oper} {v : Value} {fuel : Nat} {listed : Array Bool} {a : Act} {w : World} (n : Nat) (hi : ops[i]? = some oi)
  (hs : Region.noSelect ops = true) (hf : Region.free md ops listed i = true) (hr : (kaa md ops listed).contains i = true)
  (hk : ((i != k) && ze8 md ops n k i && zhk md ops listed && !listed.getD k true) = true)
  (hQ : ∀ c a w, zZ (.panic c) (a.put oi.dst v) w → zZ (.panic c) a w) (hy : YieldsIf P ops S oi v a) (hS : S w)
  (h : zcm P md ops zZ S k fuel (listed.setIfInBounds i true) (a.put oi.dst v) w) : zcm P md ops zZ S k (fuel + 1) listed a w := by
 simp only [kac, bne_iff_ne, ne_eq, Bool.not_eq_true'] at hk
 obtain ⟨⟨⟨h1, h2⟩, h3⟩, h4⟩ := hk;exact zpg hi (Region.noSelect_spec hs) hQ h1 h2 fuel listed a w (Region.free_spec hi hf) (closed_of h3) h4 (by simpa using hr) hy hS h
def za8 (P : Program) (md : Region.Mode) (ops : Array Oper) (zZ : Exit → Act → World → Prop) (S : World → Prop) (k fuel : Nat) (listed : Array Bool) (a : Act) (w : World) (rs : List Nat) : Prop :=
 ∀ i ∈ rs, wpOp P ops zZ i (fun a' w' => ((listed.setIfInBounds i true).getD k true = false → S w') ∧ zcm P md ops zZ S k fuel (listed.setIfInBounds i true) a' w') a w
theorem za8.nil {fuel : Nat} {listed : Array Bool} {a : Act} {w : World} : za8 P md ops zZ S k fuel listed a w [] := fun _ h => by cases h
theorem za8.cons {fuel : Nat} {listed : Array Bool} {a : Act} {w : World} {i : Nat} {o : Oper} {rs : List Nat} (ho : ops[i]? = some o)
  (h : ∀ K' : Act → World → Prop, Shut (∀ a w, ((listed.setIfInBounds i true).getD k true = false → S w) → (((listed.setIfInBounds i true).getD k true = false → S w) → zcm P md ops zZ S k fuel (listed.setIfInBounds i true) a w) → K' a w) → if kab o (yielded ops a.tmps) = true then Oper.wp P o a w K' zZ else K' (a.put o.dst undef) w)
  (hs : za8 P md ops zZ S k fuel listed a w rs) : za8 P md ops zZ S k fuel listed a w (i :: rs) := fun j hj => by
 rcases List.mem_cons.1 hj with rfl | hj
 ·exact wpOp_step ho (fun K' hK => h K' (fun a w hS hW => hK a w ⟨hS, hW hS⟩))
 ·exact hs j hj
theorem ze6 {rs : List Nat} {fuel : Nat} {listed : Array Bool} {a : Act} {w : World} (hr : kaa md ops listed = rs) (hne : rs ≠ [])
  (h : za8 P md ops zZ S k fuel listed a w rs) : zcm P md ops zZ S k (fuel + 1) listed a w :=
 ⟨fun h0 => absurd (hr ▸ h0) hne, hr ▸ h⟩
theorem zbo {listed : Array Bool} {a : Act} {w : World} (hr : kaa md ops listed = []) (h : zZ .normal a w) :
  ∀ fuel, zcm P md ops zZ S k fuel listed a w
 | 0 => ⟨hr, h⟩
 | _ + 1 => ⟨fun _ => h, by rw [hr]; simp⟩
theorem zeq {i d : Nat} {oi : Oper} {v : Value} {fuel : Nat} {listed : Array Bool} {a : Act} {w : World} (hi : ops[i]? = some oi) (hd : oi.dst = some d)
  (hs : Region.noSelect ops = true) (hf : Region.free md ops listed i = true) (hr : (kaa md ops listed).contains i = true)
  (hQ : ∀ c a w, zZ (.panic c) (a.put oi.dst v) w → zZ (.panic c) a w) (hy : YieldsIf P ops S oi v a) (hS : S w)
  (h : wpAnyH P md ops zZ S fuel (listed.setIfInBounds i true) (a.put (some d) v) w) : wpAnyH P md ops zZ S (fuel + 1) listed a w :=
 wpAnyH_take hi hs hf hr hQ hy hS (by rw [hd]; exact h)
theorem zqm {i d : Nat} {oi : Oper} {v : Value} {fuel : Nat} {listed : Array Bool} {a : Act} {w : World} (n : Nat) (hi : ops[i]? = some oi) (hd : oi.dst = some d)
  (hs : Region.noSelect ops = true) (hf : Region.free md ops listed i = true) (hr : (kaa md ops listed).contains i = true)
  (hk : ((i != k) && ze8 md ops n k i && zhk md ops listed && !listed.getD k true) = true)
  (hQ : ∀ c a w, zZ (.panic c) (a.put oi.dst v) w → zZ (.panic c) a w) (hy : YieldsIf P ops S oi v a) (hS : S w)
  (h : zcm P md ops zZ S k fuel (listed.setIfInBounds i true) (a.put (some d) v) w) : zcm P md ops zZ S k (fuel + 1) listed a w :=
 zpf n hi hs hf hr hk hQ hy hS (by rw [hd]; exact h)
def tkB (md : Region.Mode) (ops : Array Oper) (k i : Nat) (listed : Array Bool) : Bool :=
 Region.noSelect ops && Region.free md ops listed i && (kaa md ops listed).contains i && ((i != k) && ze8 md ops 20 k i && zhk md ops listed && !listed.getD k true)
theorem tk (i d : Nat) {oi : Oper} {v : Value} {fuel : Nat} {listed : Array Bool} {a : Act} {w : World} (hi : ops[i]? = some oi) (hd : oi.dst = some d) (hok : tkB md ops k i listed = true)
  (hQ : ∀ c a w, zZ (.panic c) (a.put oi.dst v) w → zZ (.panic c) a w) (hg : kab oi (yielded ops a.tmps) = true) (hv : ∀ w, S w → (execOp a.eval oi).run P w = .ok (.value v) w) (hS : S w)
  (h : zcm P md ops zZ S k fuel (listed.setIfInBounds i true) (a.put (some d) v) w) : zcm P md ops zZ S k (fuel + 1) listed a w := by
 simp only [tkB, kac] at hok
 obtain ⟨⟨⟨h1, h2⟩, h3⟩, h4⟩ := hok;exact zqm 20 hi hd h1 h2 h3 (by simp only [kac]; exact h4) hQ (Or.inl ⟨hg, hv⟩) hS h
def zaa (P : Program) (ops : Array Oper) (S : World → Prop) : List (Nat × Nat) → Act → Act → Prop
 | [], a, b => b = a
 | (i, d) :: t, a, b => ∃ (oi : Oper) (v : Value), ops[i]? = some oi ∧ oi.dst = some d ∧ kab oi (yielded ops a.tmps) = true ∧ (∀ w, S w → (execOp a.eval oi).run P w = .ok (.value v) w) ∧ zaa P ops S t (a.put (some d) v) b
theorem zaa.nil {a : Act} : zaa P ops S [] a a := rfl
theorem zaa.cons {i d : Nat} {t : List (Nat × Nat)} {a b : Act} {oi : Oper} {v : Value} (h1 : ops[i]? = some oi) (h2 : oi.dst = some d) (h3 : kab oi (yielded ops a.tmps) = true) (h4 : ∀ w, S w → (execOp a.eval oi).run P w = .ok (.value v) w) (h5 : zaa P ops S t (a.put (some d) v) b) : zaa P ops S ((i, d) :: t) a b := ⟨oi, v, h1, h2, h3, h4, h5⟩
def tksB (md : Region.Mode) (ops : Array Oper) (k : Nat) : List (Nat × Nat) → Array Bool → Bool
 | [], _ => true
 | (i, _) :: t, listed => tkB md ops k i listed && tksB md ops k t (listed.setIfInBounds i true)
def ziy : List (Nat × Nat) → Array Bool → Array Bool
 | [], listed => listed
 | (i, _) :: t, listed => ziy t (listed.setIfInBounds i true)
theorem tks_go (hQ : ∀ (d : Nat) v c a w, zZ (.panic c) (Act.put a (some d) v) w → zZ (.panic c) a w) : ∀ (l : List (Nat × Nat)) {fuel : Nat} {listed : Array Bool} {a b : Act} {w : World}, tksB md ops k l listed = true → zaa P ops S l a b → S w →
  zcm P md ops zZ S k fuel (ziy l listed) b w → zcm P md ops zZ S k (fuel + l.length) listed a w
 | [], _, _, _, _, _, _, hT, _, h => by subst hT; exact h
 | (i, d) :: t, fuel, listed, a, b, w, hB, ⟨oi, v, h1, h2, h3, h4, h5⟩, hS, h => by
  rw [tksB, kac] at hB;have e : fuel + ((i, d) :: t).length = (fuel + t.length) + 1 := by simp; omega
  rw [e];exact tk i d h1 h2 hB.1 (by rw [h2]; exact hQ _ _) h3 h4 hS (tks_go hQ t hB.2 h5 hS h)
theorem tks (n : Nat) (l : List (Nat × Nat)) {fuel : Nat} {listed : Array Bool} {a b : Act} {w : World} (hl : l.length = n) (hB : tksB md ops k l listed = true) (hQ : ∀ (d : Nat) v c a w, zZ (.panic c) (Act.put a (some d) v) w → zZ (.panic c) a w) (hT : zaa P ops S l a b) (hS : S w)
  (h : zcm P md ops zZ S k fuel (ziy l listed) b w) : zcm P md ops zZ S k (fuel + n) listed a w := hl ▸ tks_go hQ l hB hT hS h
def zfp (P : Program) (ops : Array Oper) (S : World → Prop) : List (Nat × Nat) → Act → Act → Prop
 | [], a, b => b = a
 | (i, d) :: t, a, b => ∃ (oi : Oper) (v : Value), ops[i]? = some oi ∧ oi.dst = some d ∧ YieldsIf P ops S oi v a ∧ zfp P ops S t (a.put (some d) v) b
theorem zfp.nil {a : Act} : zfp P ops S [] a a := rfl
theorem zfp.cons {i d : Nat} {t : List (Nat × Nat)} {a b : Act} {oi : Oper} {v : Value} (h1 : ops[i]? = some oi) (h2 : oi.dst = some d) (h3 : kab oi (yielded ops a.tmps) = true) (h4 : ∀ w, S w → (execOp a.eval oi).run P w = .ok (.value v) w) (h5 : zfp P ops S t (a.put (some d) v) b) : zfp P ops S ((i, d) :: t) a b := ⟨oi, v, h1, h2, Or.inl ⟨h3, h4⟩, h5⟩
theorem zfp.off {i d : Nat} {t : List (Nat × Nat)} {a b : Act} {oi : Oper} (h1 : ops[i]? = some oi) (h2 : oi.dst = some d) (h3 : kab oi (yielded ops a.tmps) = false) (h5 : zfp P ops S t (a.put (some d) undef) b) : zfp P ops S ((i, d) :: t) a b := ⟨oi, undef, h1, h2, Or.inr ⟨h3, rfl⟩, h5⟩
theorem rdy (i : Nat) {o : Oper} {fuel : Nat} {listed : Array Bool} {a : Act} {w : World} (hr : kaa md ops listed = [i]) (ho : ops[i]? = some o)
  (h : ∀ K' : Act → World → Prop, Shut (∀ a w, ((listed.setIfInBounds i true).getD k true = false → S w) → (((listed.setIfInBounds i true).getD k true = false → S w) → zcm P md ops zZ S k fuel (listed.setIfInBounds i true) a w) → K' a w) → if kab o (yielded ops a.tmps) = true then Oper.wp P o a w K' zZ else K' (a.put o.dst undef) w) :
  zcm P md ops zZ S k (fuel + 1) listed a w := ze6 hr (by simp) (za8.cons ho h za8.nil)
theorem kgo {c : Prop} {X K' : Act → World → Prop} {a : Act} {w : World} (hK : Shut (∀ a w, (c → S w) → ((c → S w) → X a w) → K' a w)) (hc : c) (hS : S w) (h : S w → X a w) : K' a w := hK.out a w (fun _ => hS) (fun hx => h (hx hc))
theorem zbb {c : Prop} {X K' : Act → World → Prop} {a : Act} {w : World} (hK : Shut (∀ a w, (c → S w) → ((c → S w) → X a w) → K' a w)) (hc : ¬ c) (h : X a w) : K' a w := hK.out a w (fun hx => absurd hx hc) (fun _ => h)
theorem zcf {id : Nat} {a : Act} {w : World} (k : Nat) (hm : P.follows .mixedOrders = true) (hS : S w.drew)
  (h : S w.drew → zcm P .any ops zZ S k ops.size (Array.replicate ops.size false) a w.drew) : (Code.region id ops true).wp P zZ a w :=
 wp_region_any hm (zkm _ _ _ _ (h hS))
end
end Go.Proofs.Ytpcnlifmkhagkaa
