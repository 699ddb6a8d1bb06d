import Derived.Test.YtpcnlifmkhagkaaKAJ15
set_option maxRecDepth 20000
set_option maxHeartbeats 20000000
namespace Go.Proofs.Ytpcnlifmkhagkaa
open Go.RowKit
open Go.Value renaming slice → G, int → E
open Go.IntKind renaming i64 → J
open _root_.Option renaming none → U
open Go.Obj renaming cells → T
open Go.RowKit renaming Hid → Q, Below → Z
open Go.World renaming setCell → r
open _root_.Nat renaming le_refl → kaa
open _root_.List renaming filter_append → kab, mem_take_iff_getElem → kac, take_of_length_le → kad, drop_eq_getElem_cons → kae, getElem_append_right → kaf
attribute [local go_sem ↓] Go.wp_at_zero Go.wp_at_succ
theorem zew {w : World} {g o : Nat} {X : List XO} (h : zk 4 zan w (some ⟨g, o, U⟩) X) {k : Nat} (hk : k < X.length) : g < w.heap.size ∧ w.cell? ⟨g, o + k * 4, U⟩ = some (E J X[k].1) ∧ w.cell? ⟨g, o + k * 4 + 1, U⟩ = some (.slice X[k].2.1.1.1 X[k].2.1.2.length X[k].2.1.1.2) ∧ w.cell? ⟨g, o + k * 4 + 2, U⟩ = some (.bool X[k].2.2.1) ∧ w.cell? ⟨g, o + k * 4 + 3, U⟩ = some (.slice X[k].2.2.2.1.1 X[k].2.2.2.2.length X[k].2.2.2.1.2) := by
 rcases h with rfl | ⟨b, o', e, hlt, hc⟩
 ·simp at hk
 ·cases e
  exact ⟨hlt, hc k hk 0 _ rfl, hc k hk 1 _ rfl, hc k hk 2 _ rfl, hc k hk 3 _ rfl⟩
theorem zga (F : Nat) (cap1 : Array Value) (hF : zfc F) (p : XO → Bool) (a : Option Addr) (X : List XO) (cap n : Nat) (w : World) (hn : n = X.length) (hl : X.length ≤ 9223372036854775807) (hp : zk 4 zan w a X)
  (hf : ∀ x ∈ X, ∀ w', Z w.heap.size w w' → Calls Try.prog F (#[.agg #[E J x.1, G x.2.1.1.1 x.2.1.2.length x.2.1.1.2, .bool x.2.2.1, G x.2.2.2.1.1 x.2.2.2.2.length x.2.2.2.1.2]] ++ cap1) w' fun e w'' => e = .returned (.bool (p x)) ∧ Z w'.heap.size w' w'') :
  Calls Try.prog 20 #[G a n cap, .func (.func F) #[] cap1] w fun e w' => ∃ jj : Int, e = .returned (E J jj) ∧ IdxP X p jj ∧ Z w.heap.size w w' := by
 have HP := zB hn hp;have HFn := zA hf;have hnl : n ≤ 9223372036854775807 := by omega
 clear hn hp hf;go_enter Try.func20, Try.ntmps20
 go_wp2;go_loopw [8] (fun i w' => ∃ k : Nat, k ≤ n ∧ i = E J k ∧ Q (∀ x ∈ X.take k, p x = false) ∧ Z w.heap.size w w') (fun i _ => n - (intOf i).toNat)
 case atStart => exact ⟨0, Nat.zero_le _, rfl, (fun x hx => by simp at hx), Below.refl _ _⟩
 case round =>
  obtain ⟨k, hk, rfl, hno, hbw⟩ := hrel;have hsz := hbw.size;by_cases hlt : k < n
  ·have hkX : k < X.length := by have := HP.out.1; omega
   have jX := HP.out.2.below hbw
   obtain ⟨g, o, rfl⟩ : ∃ g o, a = some ⟨g, o, U⟩ := by
    rcases HP.out.2 with h | ⟨g, o, h, _⟩
    ·rw [h] at hkX; simp at hkX
    ·exact ⟨g, o, h⟩
   obtain ⟨_, d0, d1, d2, d3⟩ := zew jX hkX;have HI : Q (p X[k] = true → IdxP X p k) := fun h => Or.inr ⟨k, hkX, rfl, h, fun j hj hj' => hno.out _ (kac.2 ⟨j, by omega, rfl⟩)⟩
   have HJ : Q (p X[k] = false → ∀ x ∈ X.take (k + 1), p x = false) := fun h x hx => by
    rw [zax hkX] at hx;rcases List.mem_append.1 hx with hx | hx
    ·exact hno.out x hx
    ·rw [List.mem_singleton.1 hx]; exact h
   have HC := HFn.out _ (List.getElem_mem hkX);clear jX hno;generalize X[k] = x at *;generalize p x = pb at *;obtain ⟨dd, ⟨⟨pa, pc⟩, l⟩, dec, ⟨ha, hc⟩, hd⟩ := x;simp only at d0 d1 d2 d3 HC
   generalize l.length = ln at *;generalize hd.length = hn at *;go_wp2_with fail
   rw [hF.out, Oper.upon_enter];refine (HC _ hbw).mono ?_;rintro e w1 ⟨rfl, hb1⟩;have hB1 := hbw.trans (hb1.mono hsz);clear d0 d1 d2 d3 hb1 HC;cases pb
   ·have HJ2 := zA (HJ.out rfl)
    clear HI HJ;go_wp2;go_roundw
    case rel => exact ⟨k + 1, by omega, by go_num, HJ2, hB1⟩
    case measure => simp [intOf]; omega
   ·have HI2 : Q _ := HI.out rfl
    clear HI HJ;go_wp2;go_ret;exact ⟨_, rfl, HI2.out, hB1⟩
  ·have HF : Q (IdxP X p (-1)) := Or.inl ⟨rfl, fun x hx => hno.out x (by rw [kad (by have := HP.out.1; omega)]; exact hx)⟩
   clear hno;go_wp2;go_ret;exact ⟨_, rfl, HF.out, hbw⟩
theorem infoOp2 (w : World) : (zeroValue 38).run Try.prog w = .ok (.agg #[E J 0, G U 0 0, .bool false, G U 0 0]) w := by kernel_rfl
theorem znl (F : Nat) (cap1 : Array Value) (hF : zfc F) (p : XO → Bool) (a : Option Addr) (X : List XO) (cap n base : Nat) (w : World) (hl : X.length ≤ 4398046511104) (jx : zd 38 4 zan w base (G a n cap) X)
  (hf : ∀ x ∈ X, ∀ w', w.grownBy w' (Value.ownBlock (G a n cap)) → Calls Try.prog F (#[.agg #[E J x.1, G x.2.1.1.1 x.2.1.2.length x.2.1.1.2, .bool x.2.2.1, G x.2.2.2.1.1 x.2.2.2.2.length x.2.2.2.1.2]] ++ cap1) w' fun e w'' => e = .returned (.bool (p x)) ∧ Z w'.heap.size w' w'') :
  Calls Try.prog 29 #[G a n cap, .func (.func F) #[] cap1] w fun e w' => ∃ n', e = .returned (G a n' cap) ∧ zd 38 4 zan w' base (G a n' cap) (X.filter fun x => !p x) ∧ w.grownBy w' (Value.ownBlock (G a n cap)) := by
 obtain ⟨a', cap', hv, jX, jZ, hmax⟩ := jx.row zas;cases hv;have HC := zga F cap1 hF p a X cap X.length w rfl (by omega) jX (fun x hx w' hb => hf x hx w' (ze5 hb));have HO := zC jx hf hmax;have hm63 : (cap : Int) ≤ 9223372036854775807 := by unfold maxLen at hmax; omega
 clear jx jX hf hmax;generalize hxl : X.length = n at *;have HL := zA hxl;clear hxl;go_enter Try.func29, Try.ntmps29
 go_wp2_with fail
 refine HC.mono ?_;rintro e w1 ⟨jj, rfl, hidx, hb1⟩;clear HC;rcases hidx with ⟨rfl, qy⟩ | ⟨i0, hi0, rfl, hD, hlow⟩
 ·have HF : Q ((X.filter fun x => !p x) = X) := by
   show _ = _
   rw [List.filter_eq_self];intro x hx;rw [qy x hx]; rfl
  clear qy;go_wp2;go_ret;exact ⟨n, rfl, by rw [HF.out]; exact HO.out.1.below hb1 (kaa _), ze5 hb1⟩
 ·rw [HL.out] at hi0
  have hi0n := hi0
  obtain ⟨g, ha⟩ : ∃ g, a = some ⟨g, 0, U⟩ := by
   rcases HO.out.1.2 with ⟨hv, h0⟩ | ⟨g, cap', cur, hv, _⟩
   ·exfalso; have := HL.out; omega
   ·cases hv; exact ⟨g, rfl⟩
  subst ha
  have hK0 : Q ((X.take (i0 + 1)).filter (fun x => !p x) = X.take i0) := by
   show _ = _
   have hx : i0 < X.length := by rw [HL.out]; exact hi0
   rw [zax hx, kab]
   have e1 : (X.take i0).filter (fun x => !p x) = X.take i0 := by
    rw [List.filter_eq_self];intro x hx';obtain ⟨j, hj, rfl⟩ := kac.1 hx';rw [hlow j (by omega) (by omega)]; rfl
   rw [e1];simp [hD]
  have hne1 : ((i0 : Int) == -1) = false := beq_eq_false_iff_ne.2 (by omega);clear hlow hD hi0;go_wp2_with fail
  go_loopw [5, 6] (fun s5 s6 w' => ∃ (i j : Nat) (K M : List XO), s5 = E J i ∧ s6 = E J j ∧ j ≤ n ∧ i < j ∧ Q (K = (X.take j).filter (fun x => !p x) ∧ K.length = i ∧ K.length + M.length = j) ∧ zd 38 4 zan w' base (G (some ⟨g, 0, U⟩) n cap) (K ++ (M ++ X.drop j)) ∧ w.grownBy w' (some g)) (fun _ s6 _ => n - (intOf s6).toNat)
  case atStart =>
   have hx : i0 < X.length := by rw [HL.out]; exact hi0n
   refine ⟨i0, i0 + 1, X.take i0, [X[i0]], rfl, by go_num, by omega, by omega, ⟨hK0.out.symm, by simp; omega, by simp; omega⟩, ?_, ze5 hb1⟩;rw [List.singleton_append, ← kae hx, List.take_append_drop];exact HO.out.1.below hb1 (kaa _)
  case round =>
   obtain ⟨i, j, K, M, rfl, rfl, hj, hij, hKM, jx, hgr⟩ := hrel
   have jw : Q ((K ++ (M ++ X.drop j)).length = n) := by
    show _ = _
    have := hKM.out.2.2;have := HL.out;simp only [List.length_append, List.length_drop]; omega
   have hrow2 := (jx.at zas).1;have hsz := hgr.size;by_cases hlt : j < n
   ·have hjX : j < X.length := by rw [HL.out]; exact hlt
    obtain ⟨hgl, d0, d1, d2, d3⟩ := zew hrow2 (k := j) (by rw [jw.out]; exact hlt);obtain ⟨_, t0, t1, t2, t3⟩ := zew hrow2 (k := i) (by rw [jw.out]; omega);have ho' := jx;unfold zd at ho'
    rw [jw.out] at ho';have fz : ∀ q, wr.frozen? ⟨g, q, U⟩ = false := fun q => World.ownsRow.frozenAt ho' q
    have hget : (K ++ (M ++ X.drop j))[j]'(by rw [jw.out]; exact hlt) = X[j] := by
     have h1 := hKM.out.2.2;rw [kaf (by omega), kaf (by omega)];rw [List.getElem_drop];congr 1
     omega
    rw [hget] at d0 d1 d2 d3;have HS := zB (kae hjX) (zax hjX);have HC := HO.out.2.1 _ (List.getElem_mem hjX);generalize (K ++ (M ++ X.drop j))[i]'(by rw [jw.out]; omega) = old at *;clear hget hrow2;generalize X[j] = x at *;simp only [Nat.zero_add] at d0 d1 d2 d3 t0 t1 t2 t3
    have HW := zB jx hgr;have hi2 : (i : Int) < (n : Int) := by omega
    have fi0 := fz (i * 4);have fi1 := fz (i * 4 + 1);have fi2 := fz (i * 4 + 2);have fi3 := fz (i * 4 + 3);obtain ⟨pb, hpb⟩ : ∃ pb, Q (p x = pb) := ⟨_, rfl⟩;rw [hpb.out] at HC;have HXE : Q (zan x = [E J x.1, G x.2.1.1.1 x.2.1.2.length x.2.1.1.2, .bool x.2.2.1, G x.2.2.2.1.1 x.2.2.2.2.length x.2.2.2.1.2]) := rfl;clear jx ho' fz;obtain ⟨dd, ⟨⟨pa, pc⟩, l⟩, dec, ⟨ha, hc⟩, hd⟩ := x;simp only at d0 d1 d2 d3 HC HXE
    generalize hln : l.length = ln at *;generalize hhn : hd.length = hn at *;have HN0 := zB hln hhn;clear hln hhn;have hA : Z wr.heap.size wr (wr.alloc (T #[E J dd, G pa ln pc, .bool dec, G ha hn hc] 38)) := zi _ _;have HCW := hgr.trans (ze5 hA);go_wp2_with fail
    rw [hF.out, Oper.upon_enter];refine (HC _ HCW).mono ?_;rintro e w2 ⟨rfl, hb2'⟩;have hb2 := hA.trans (hb2'.mono (by simp));have hv2 := (Blk.new wr _ _).below hb2' (by simp);obtain ⟨v0, v1, v2, v3⟩ := hv2.cells4;have lv := hv2.lt;obtain ⟨bc, bf⟩ := zcz hb2;have t0' := (bc g (i * 4) hgl).trans t0;have t1' := (bc g (i * 4 + 1) hgl).trans t1;have t2' := (bc g (i * 4 + 2) hgl).trans t2;have t3' := (bc g (i * 4 + 3) hgl).trans t3;have f0' := (bf g (i * 4) hgl).trans fi0;have f1' := (bf g (i * 4 + 1) hgl).trans fi1;have f2' := (bf g (i * 4 + 2) hgl).trans fi2;have f3' := (bf g (i * 4 + 3) hgl).trans fi3;have HO2 := zB (HW.out.1.below hb2 (kaa _)) (HW.out.2.trans (ze5 hb2));have hgl2 := Nat.lt_of_lt_of_le hgl hb2.size;clear bc bf d0 d1 d2 d3 t0 t1 t2 t3 fi0 fi1 fi2 fi3 hb2 hb2' hA HCW hv2 hgr HW HC
    cases pb with
    | true =>
     have HN : Q (K = (X.take (j + 1)).filter (fun x => !p x) ∧ K.length = i ∧ K.length + (M ++ [(dd, ((pa, pc), l), dec, ((ha, hc), hd))]).length = j + 1 ∧ K ++ (M ++ X.drop j) = K ++ ((M ++ [(dd, ((pa, pc), l), dec, ((ha, hc), hd))]) ++ X.drop (j + 1))) := by
      refine ⟨?_, hKM.out.2.1, by have := hKM.out.2.2; simp; omega, ?_⟩
      ·rw [HS.out.2, kab, ← hKM.out.1]
       simp [hpb.out]
      ·rw [HS.out.1]; simp
     clear t0' f0' t1' f1' t2' f2' t3' f3' v0 v1 v2 v3 lv;go_wp2_with fail
     go_roundw
     case rel => exact ⟨i, j + 1, K, M ++ [(dd, ((pa, pc), l), dec, ((ha, hc), hd))], rfl, by go_num, by omega, by omega, ⟨HN.out.1, HN.out.2.1, HN.out.2.2.1⟩, by rw [← HN.out.2.2.2]; exact HO2.out.1, HO2.out.2⟩
     case measure => simp [intOf]; omega
    | false =>
     obtain ⟨m, M', hM⟩ : ∃ m M', M = m :: M' := by
      cases M with
      | nil => exfalso; have h1 := hKM.out.2.2; have h2 := hKM.out.2.1; simp at h1; omega
      | cons m M' => exact ⟨m, M', rfl⟩
     have HN : Q (K ++ [(dd, ((pa, pc), l), dec, ((ha, hc), hd))] = (X.take (j + 1)).filter (fun x => !p x) ∧ (K ++ [(dd, ((pa, pc), l), dec, ((ha, hc), hd))]).length = i + 1 ∧ (K ++ [(dd, ((pa, pc), l), dec, ((ha, hc), hd))]).length + (M' ++ [(dd, ((pa, pc), l), dec, ((ha, hc), hd))]).length = j + 1 ∧ (K ++ (M ++ X.drop j)).set i (dd, ((pa, pc), l), dec, ((ha, hc), hd)) = (K ++ [(dd, ((pa, pc), l), dec, ((ha, hc), hd))]) ++ ((M' ++ [(dd, ((pa, pc), l), dec, ((ha, hc), hd))]) ++ X.drop (j + 1))) := by
      refine ⟨?_, by have := hKM.out.2.1; simp; omega, by have := hKM.out.2.2; rw [hM] at this; simp at this; simp; omega, ?_⟩
      ·rw [HS.out.2, kab, ← hKM.out.1]
       simp [hpb.out]
      ·rw [HS.out.1, hM, List.set_append_right i _ (by have := hKM.out.2.1; omega), hKM.out.2.1, Nat.sub_self]
       simp
     have HP : Q (zd 38 4 zan (r (r (r (r w2 ⟨g, i * 4, U⟩ (E J dd)) ⟨g, i * 4 + 1, U⟩ (G pa ln pc)) ⟨g, i * 4 + 2, U⟩ (.bool dec)) ⟨g, i * 4 + 3, U⟩ (G ha hn hc)) base (G (some ⟨g, 0, U⟩) n cap) ((K ++ [(dd, ((pa, pc), l), dec, ((ha, hc), hd))]) ++ ((M' ++ [(dd, ((pa, pc), l), dec, ((ha, hc), hd))]) ++ X.drop (j + 1)))) := by
      rw [← HN.out.2.2.2];exact HO2.out.1.put4 zas jw.out.symm (by rw [jw.out]; omega) HXE.out
     have HG : Q (w.grownBy (r (r (r (r w2 ⟨g, i * 4, U⟩ (E J dd)) ⟨g, i * 4 + 1, U⟩ (G pa ln pc)) ⟨g, i * 4 + 2, U⟩ (.bool dec)) ⟨g, i * 4 + 3, U⟩ (G ha hn hc)) (some g)) := (((HO2.out.2.trans (zfh _ _ _ _)).trans (zfh _ _ _ _)).trans (zfh _ _ _ _)).trans (zfh _ _ _ _);clear hM HO2 jw;go_wp2_with fail
     go_roundw
     case rel => exact ⟨i + 1, j + 1, K ++ [(dd, ((pa, pc), l), dec, ((ha, hc), hd))], M' ++ [(dd, ((pa, pc), l), dec, ((ha, hc), hd))], by go_num, by go_num, by omega, by omega, ⟨HN.out.1, HN.out.2.1, HN.out.2.2.1⟩, HP.out, HG.out⟩
     case measure => simp [intOf]; omega
   ·have hjn : j = n := by omega
    subst hjn;have hdr := List.drop_eq_nil_of_le (by rw [HL.out]; exact kaa _);have hkf : K = X.filter (fun x => !p x) := by rw [hKM.out.1, kad (by rw [HL.out]; exact kaa _)]
    have ho' := jx;unfold zd at ho'
    rw [jw.out] at ho';have hin := hij
    obtain ⟨vs, hcl⟩ : ∃ vs, ∀ ty, (Builtin.clear_ #[27] ty #[G (some ⟨g, i * 4, U⟩) (j - i) (cap - i)]).run Try.prog wr = .ok (.tuple #[]) (wr.setCells g (i * 4) vs) := by
     have h1 := zh2 wr 27 38 0 _ Try.underlying27 infoOp2 (by intro u hu; simp [Value.cells] at hu; rcases hu with rfl | rfl | rfl | rfl <;> rfl) g (i * 4) (j - i) (cap - i) (by omega) (fun q hq => by
      have hq' : q < (j - i) * 4 := hq;rw [World.ownsRow.cellAt ho' _ (by omega)];have hl2 : (zx zan (K ++ (M ++ X.drop j))).length = j * 4 := by rw [zde zas, jw.out]
      rw [List.getElem?_eq_getElem (by rw [hl2]; omega)]
      rfl) (fun q _ => World.ownsRow.frozenAt ho' _)
     obtain ⟨vs, h1⟩ := h1;exact ⟨vs, fun ty => h1⟩
    have HE : Q (zd 38 4 zan (wr.setCells g (i * 4) vs) base (G (some ⟨g, 0, U⟩) i cap) (X.filter fun x => !p x) ∧ w.grownBy (wr.setCells g (i * 4) vs) (some g)) := by
     refine ⟨?_, hgr.trans (zie g vs _ _)⟩;rw [← hkf];exact zd.setCells zas hKM.out.2.1.symm vs _ _ (jx.cut zas hKM.out.2.1.symm) (by rw [hKM.out.2.1]; exact kaa _)
    clear ho' jx hgr hrow2 hdr hkf hKM jw;have hic : (i : Int) ≤ (cap : Int) := by omega
    have hjc : (j : Int) ≤ (cap : Int) := by omega
    go_wp2;go_ret;exact ⟨i, rfl, HE.out.1, HE.out.2⟩
theorem zih {w : World} {g o : Nat} {X : List Int} (h : zk 1 zv w (some ⟨g, o, U⟩) X) {k : Nat} (hk : k < X.length) : g < w.heap.size ∧ w.cell? ⟨g, o + k, U⟩ = some (E J X[k]) := by
 rcases h with rfl | ⟨b, o', e, hlt, hc⟩
 ·simp at hk
 ·cases e
  have h0 := hc k hk 0 _ rfl;rw [Nat.mul_one, Nat.add_zero] at h0;exact ⟨hlt, h0⟩
theorem zpw (F b : Nat) (hF : zfc F) (p : Int → Bool) (a : Option Addr) (X : List Int) (cap n : Nat) (w : World) (hn : n = X.length) (hl : X.length ≤ 9223372036854775807) (hp : zk 1 zv w a X)
  (hf : ∀ x ∈ X, ∀ w', Z w.heap.size w w' → Calls Try.prog F #[E J x, .pointer (some ⟨b, 0, U⟩)] w' fun e w'' => e = .returned (.bool (p x)) ∧ Z w'.heap.size w' w'') :
  Calls Try.prog 76 #[G a n cap, .func (.func F) #[] #[.pointer (some ⟨b, 0, U⟩)]] w fun e w' => ∃ jj : Int, e = .returned (E J jj) ∧ IdxP X p jj ∧ Z w.heap.size w w' := by
 have HP := zB hn hp;have HFn := zA hf;have hnl : n ≤ 9223372036854775807 := by omega
 clear hn hp hf;go_enter Try.func76, Try.ntmps76
 go_wp2;go_loopw [8] (fun i w' => ∃ k : Nat, k ≤ n ∧ i = E J k ∧ Q (∀ x ∈ X.take k, p x = false) ∧ Z w.heap.size w w') (fun i _ => n - (intOf i).toNat)
 case atStart => exact ⟨0, Nat.zero_le _, rfl, (fun x hx => by simp at hx), Below.refl _ _⟩
 case round =>
  obtain ⟨k, hk, rfl, hno, hbw⟩ := hrel;have hsz := hbw.size;by_cases hlt : k < n
  ·have hkX : k < X.length := by have := HP.out.1; omega
   have jX := HP.out.2.below hbw
   obtain ⟨g, o, rfl⟩ : ∃ g o, a = some ⟨g, o, U⟩ := by
    rcases HP.out.2 with h | ⟨g, o, h, _⟩
    ·rw [h] at hkX; simp at hkX
    ·exact ⟨g, o, h⟩
   obtain ⟨_, d0⟩ := zih jX hkX;have HI : Q (p X[k] = true → IdxP X p k) := fun h => Or.inr ⟨k, hkX, rfl, h, fun j hj hj' => hno.out _ (kac.2 ⟨j, by omega, rfl⟩)⟩
   have HJ : Q (p X[k] = false → ∀ x ∈ X.take (k + 1), p x = false) := fun h x hx => by
    rw [zax hkX] at hx;rcases List.mem_append.1 hx with hx | hx
    ·exact hno.out x hx
    ·rw [List.mem_singleton.1 hx]; exact h
   have HC := HFn.out _ (List.getElem_mem hkX) wr hbw;clear jX hno;generalize X[k] = x at *;generalize p x = pb at *;go_wp2_with fail
   rw [hF.out, Oper.upon_enter];refine HC.mono ?_;rintro e w1 ⟨rfl, hb1⟩;have hB1 := hbw.trans (hb1.mono hsz);clear d0 hb1 HC;cases pb
   ·have HJ2 := zA (HJ.out rfl)
    clear HI HJ;go_wp2;go_roundw
    case rel => exact ⟨k + 1, by omega, by go_num, HJ2, hB1⟩
    case measure => simp [intOf]; omega
   ·have HI2 : Q _ := HI.out rfl
    clear HI HJ;go_wp2;go_ret;exact ⟨_, rfl, HI2.out, hB1⟩
  ·have HF : Q (IdxP X p (-1)) := Or.inl ⟨rfl, fun x hx => hno.out x (by rw [kad (by have := HP.out.1; omega)]; exact hx)⟩
   clear hno;go_wp2;go_ret;exact ⟨_, rfl, HF.out, hbw⟩
theorem infoI2 (w : World) : (zeroValue 3).run Try.prog w = .ok (E J 0) w := by kernel_rfl
theorem zpl (F b : Nat) (hF : zfc F) (p : Int → Bool) (a : Option Addr) (X : List Int) (cap n base : Nat) (w : World) (hl : X.length ≤ 4398046511104) (jx : zd 3 1 zv w base (G a n cap) X)
  (hf : ∀ x ∈ X, ∀ w', w.grownBy w' (Value.ownBlock (G a n cap)) → Calls Try.prog F #[E J x, .pointer (some ⟨b, 0, U⟩)] w' fun e w'' => e = .returned (.bool (p x)) ∧ Z w'.heap.size w' w'') :
  Calls Try.prog 55 #[G a n cap, .func (.func F) #[] #[.pointer (some ⟨b, 0, U⟩)]] w fun e w' => ∃ n', e = .returned (G a n' cap) ∧ zd 3 1 zv w' base (G a n' cap) (X.filter fun x => !p x) ∧ w.grownBy w' (Value.ownBlock (G a n cap)) := by
 obtain ⟨a', cap', hv, jX, jZ, hmax⟩ := jx.row zai;cases hv;have HC := zpw F b hF p a X cap X.length w rfl (by omega) jX (fun x hx w' hb => hf x hx w' (ze5 hb));have HO := zC jx hf hmax;have hm63 : (cap : Int) ≤ 9223372036854775807 := by unfold maxLen at hmax; omega
 clear jx jX hf hmax;generalize hxl : X.length = n at *;have HL := zA hxl;clear hxl;go_enter Try.func55, Try.ntmps55
 go_wp2_with fail
 refine HC.mono ?_;rintro e w1 ⟨jj, rfl, hidx, hb1⟩;clear HC;rcases hidx with ⟨rfl, qy⟩ | ⟨i0, hi0, rfl, hD, hlow⟩
 ·have HF : Q ((X.filter fun x => !p x) = X) := by
   show _ = _
   rw [List.filter_eq_self];intro x hx;rw [qy x hx]; rfl
  clear qy;go_wp2;go_ret;exact ⟨n, rfl, by rw [HF.out]; exact HO.out.1.below hb1 (kaa _), ze5 hb1⟩
 ·rw [HL.out] at hi0
  have hi0n := hi0
  obtain ⟨g, ha⟩ : ∃ g, a = some ⟨g, 0, U⟩ := by
   rcases HO.out.1.2 with ⟨hv, h0⟩ | ⟨g, cap', cur, hv, _⟩
   ·exfalso; have := HL.out; omega
   ·cases hv; exact ⟨g, rfl⟩
  subst ha
  have hK0 : Q ((X.take (i0 + 1)).filter (fun x => !p x) = X.take i0) := by
   show _ = _
   have hx : i0 < X.length := by rw [HL.out]; exact hi0
   rw [zax hx, kab]
   have e1 : (X.take i0).filter (fun x => !p x) = X.take i0 := by
    rw [List.filter_eq_self];intro x hx';obtain ⟨j, hj, rfl⟩ := kac.1 hx';rw [hlow j (by omega) (by omega)]; rfl
   rw [e1];simp [hD]
  have hne1 : ((i0 : Int) == -1) = false := beq_eq_false_iff_ne.2 (by omega);clear hlow hD hi0;go_wp2_with fail
  go_loopw [5, 6] (fun s5 s6 w' => ∃ (i j : Nat) (K M : List Int), s5 = E J i ∧ s6 = E J j ∧ j ≤ n ∧ i < j ∧ Q (K = (X.take j).filter (fun x => !p x) ∧ K.length = i ∧ K.length + M.length = j) ∧ zd 3 1 zv w' base (G (some ⟨g, 0, U⟩) n cap) (K ++ (M ++ X.drop j)) ∧ w.grownBy w' (some g)) (fun _ s6 _ => n - (intOf s6).toNat)
  case atStart =>
   have hx : i0 < X.length := by rw [HL.out]; exact hi0n
   refine ⟨i0, i0 + 1, X.take i0, [X[i0]], rfl, by go_num, by omega, by omega, ⟨hK0.out.symm, by simp; omega, by simp; omega⟩, ?_, ze5 hb1⟩;rw [List.singleton_append, ← kae hx, List.take_append_drop];exact HO.out.1.below hb1 (kaa _)
  case round =>
   obtain ⟨i, j, K, M, rfl, rfl, hj, hij, hKM, jx, hgr⟩ := hrel
   have jw : Q ((K ++ (M ++ X.drop j)).length = n) := by
    show _ = _
    have := hKM.out.2.2;have := HL.out;simp only [List.length_append, List.length_drop]; omega
   have hrow2 := (jx.at zai).1;have hsz := hgr.size;by_cases hlt : j < n
   ·have hjX : j < X.length := by rw [HL.out]; exact hlt
    obtain ⟨hgl, d0⟩ := zih hrow2 (k := j) (by rw [jw.out]; exact hlt);obtain ⟨_, t0⟩ := zih hrow2 (k := i) (by rw [jw.out]; omega);have ho' := jx;unfold zd at ho'
    rw [jw.out] at ho';have fz : ∀ q, wr.frozen? ⟨g, q, U⟩ = false := fun q => World.ownsRow.frozenAt ho' q
    have hget : (K ++ (M ++ X.drop j))[j]'(by rw [jw.out]; exact hlt) = X[j] := by
     have h1 := hKM.out.2.2;rw [kaf (by omega), kaf (by omega)];rw [List.getElem_drop];congr 1
     omega
    rw [hget] at d0;have HS := zB (kae hjX) (zax hjX);have HC := HO.out.2.1 _ (List.getElem_mem hjX) wr hgr;generalize (K ++ (M ++ X.drop j))[i]'(by rw [jw.out]; omega) = old at *;clear hget hrow2;generalize X[j] = x at *;simp only [Nat.zero_add] at d0 t0
    have HW := zB jx hgr;have hi2 : (i : Int) < (n : Int) := by omega
    have fi0 := fz i;obtain ⟨pb, hpb⟩ : ∃ pb, Q (p x = pb) := ⟨_, rfl⟩;rw [hpb.out] at HC;clear jx hgr ho' fz;go_wp2_with fail
    rw [hF.out, Oper.upon_enter];refine HC.mono ?_;rintro e w2 ⟨rfl, hb2⟩;obtain ⟨bc, bf⟩ := zcz hb2;have t0' := (bc g i hgl).trans t0;have f0' := (bf g i hgl).trans fi0;have HO2 := zB (HW.out.1.below hb2 (kaa _)) (HW.out.2.trans (ze5 hb2));have hgl2 := Nat.lt_of_lt_of_le hgl hb2.size;clear bc bf d0 t0 fi0 hb2 HW HC
    cases pb with
    | true =>
     have HN : Q (K = (X.take (j + 1)).filter (fun x => !p x) ∧ K.length = i ∧ K.length + (M ++ [x]).length = j + 1 ∧ K ++ (M ++ X.drop j) = K ++ ((M ++ [x]) ++ X.drop (j + 1))) := by
      refine ⟨?_, hKM.out.2.1, by have := hKM.out.2.2; simp; omega, ?_⟩
      ·rw [HS.out.2, kab, ← hKM.out.1]
       simp [hpb.out]
      ·rw [HS.out.1]; simp
     clear t0' f0';go_wp2_with fail
     go_roundw
     case rel => exact ⟨i, j + 1, K, M ++ [x], rfl, by go_num, by omega, by omega, ⟨HN.out.1, HN.out.2.1, HN.out.2.2.1⟩, by rw [← HN.out.2.2.2]; exact HO2.out.1, HO2.out.2⟩
     case measure => simp [intOf]; omega
    | false =>
     obtain ⟨m, M', hM⟩ : ∃ m M', M = m :: M' := by
      cases M with
      | nil => exfalso; have h1 := hKM.out.2.2; have h2 := hKM.out.2.1; simp at h1; omega
      | cons m M' => exact ⟨m, M', rfl⟩
     have HN : Q (K ++ [x] = (X.take (j + 1)).filter (fun x => !p x) ∧ (K ++ [x]).length = i + 1 ∧ (K ++ [x]).length + (M' ++ [x]).length = j + 1 ∧ (K ++ (M ++ X.drop j)).set i x = (K ++ [x]) ++ ((M' ++ [x]) ++ X.drop (j + 1))) := by
      refine ⟨?_, by have := hKM.out.2.1; simp; omega, by have := hKM.out.2.2; rw [hM] at this; simp at this; simp; omega, ?_⟩
      ·rw [HS.out.2, kab, ← hKM.out.1]
       simp [hpb.out]
      ·rw [HS.out.1, hM, List.set_append_right i _ (by have := hKM.out.2.1; omega), hKM.out.2.1, Nat.sub_self]
       simp
     have HP : Q (zd 3 1 zv (r w2 ⟨g, i, U⟩ (E J x)) base (G (some ⟨g, 0, U⟩) n cap) ((K ++ [x]) ++ ((M' ++ [x]) ++ X.drop (j + 1)))) := by
      rw [← HN.out.2.2.2];have h := HO2.out.1.putN zai (i := i) (by rw [jw.out]; omega) x;rw [Nat.mul_one] at h;exact h
     have HG : Q (w.grownBy (r w2 ⟨g, i, U⟩ (E J x)) (some g)) := HO2.out.2.trans (zfh _ _ _ _);clear hM HO2 jw;go_wp2_with fail
     go_roundw
     case rel => exact ⟨i + 1, j + 1, K ++ [x], M' ++ [x], by go_num, by go_num, by omega, by omega, ⟨HN.out.1, HN.out.2.1, HN.out.2.2.1⟩, HP.out, HG.out⟩
     case measure => simp [intOf]; omega
   ·have hjn : j = n := by omega
    subst hjn;have hdr := List.drop_eq_nil_of_le (by rw [HL.out]; exact kaa _);have hkf : K = X.filter (fun x => !p x) := by rw [hKM.out.1, kad (by rw [HL.out]; exact kaa _)]
    have ho' := jx;unfold zd at ho'
    rw [jw.out] at ho';have hin := hij
    obtain ⟨vs, hcl⟩ : ∃ vs, ∀ ty, (Builtin.clear_ #[36] ty #[G (some ⟨g, i, U⟩) (j - i) (cap - i)]).run Try.prog wr = .ok (.tuple #[]) (wr.setCells g i vs) := by
     have h1 := zh2 wr 36 3 0 _ Try.underlying36 infoI2 (by intro u hu; simp [Value.cells] at hu; rcases hu with rfl; rfl) g i (j - i) (cap - i) (by omega) (fun q hq => by
      have hq' : q < (j - i) * 1 := hq;rw [World.ownsRow.cellAt ho' _ (by omega)];have hl2 : (zx zv (K ++ (M ++ X.drop j))).length = j * 1 := by rw [zde zai, jw.out]
      rw [List.getElem?_eq_getElem (by rw [hl2]; omega)]
      rfl) (fun q _ => World.ownsRow.frozenAt ho' _)
     obtain ⟨vs, h1⟩ := h1;exact ⟨vs, fun ty => h1⟩
    have HE : Q (zd 3 1 zv (wr.setCells g i vs) base (G (some ⟨g, 0, U⟩) i cap) (X.filter fun x => !p x) ∧ w.grownBy (wr.setCells g i vs) (some g)) := by
     refine ⟨?_, hgr.trans (zie g vs _ _)⟩;rw [← hkf];exact zd.setCells zai hKM.out.2.1.symm vs _ _ (jx.cut zai hKM.out.2.1.symm) (by rw [hKM.out.2.1]; omega)
    clear ho' jx hgr hrow2 hdr hkf hKM jw;have hic : (i : Int) ≤ (cap : Int) := by omega
    have hjc : (j : Int) ≤ (cap : Int) := by omega
    go_wp2;go_ret;exact ⟨i, rfl, HE.out.1, HE.out.2⟩
end Go.Proofs.Ytpcnlifmkhagkaa
