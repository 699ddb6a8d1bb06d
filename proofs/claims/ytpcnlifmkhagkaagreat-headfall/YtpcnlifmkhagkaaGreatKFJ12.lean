import Derived.Test.YtpcnlifmkhagkaaGreatKFLog5
set_option maxRecDepth 20000
set_option maxHeartbeats 20000000
namespace Go.Proofs.YtpcnlifmkhagkaaGreat
open Go.RowKit
open Go.Value renaming slice → G, int → E
open Go.IntKind renaming i64 → J
open _root_.Option renaming none → U
open Go.Obj renaming cells → T
open Go.RowKit renaming Hid → Q, Below → Z
open Go.World renaming setCell → r
open _root_.Nat renaming le_refl → kaa
attribute [local go_sem ↓] Go.wp_at_zero Go.wp_at_succ
theorem zlb (d : Int) (v1 v2 v3 : Value) (b : Nat) (D : Int) (w : World) (hb : b < w.heap.size) (c1 : w.cell? ⟨b, 1, U⟩ = some (E J D)) :
  Calls Tryz.prog 106 #[.agg #[E J d, v1, v2, v3], .pointer (some ⟨b, 0, U⟩)] w fun e w' => e = .returned (.bool (decide (d = D))) ∧ Z w.heap.size w w' := by
 have c2 : (w.alloc (T #[E J d, v1, v2, v3] 58)).cell? ⟨b, 1, U⟩ = some (E J D) := by rw [Below.cell (zg w _) hb]; exact c1
 clear c1;go_enter Tryz.func106, Tryz.ntmps106
 go_wp2
 all_goals
  go_ret;refine ⟨zgh ?_, zg _ _⟩;rw [Bool.eq_iff_iff]; simp_all
theorem zju {w : World} {g o : Nat} {X : List XD} (h : zk 4 zb9 w (some ⟨g, o, U⟩) X) {k : Nat} (hk : k < X.length) : g < w.heap.size ∧ w.cell? ⟨g, o + k * 4, U⟩ = some (E J X[k].1) ∧ w.cell? ⟨g, o + k * 4 + 1, U⟩ = some (.slice X[k].2.1.1 X[k].2.2.length X[k].2.1.2) ∧ w.cell? ⟨g, o + k * 4 + 2, U⟩ = some (.bool true) ∧ w.cell? ⟨g, o + k * 4 + 3, U⟩ = some (G U 0 0) := by
 rcases h with rfl | ⟨b, o', e, hlt, hc⟩
 ·simp at hk
 ·cases e
  exact ⟨hlt, hc k hk 0 _ rfl, hc k hk 1 _ rfl, hc k hk 2 _ rfl, hc k hk 3 _ rfl⟩
theorem zou (a : Option Addr) (X : List XD) (cap n : Nat) (b : Nat) (D : Int) (w : World) (hn : n = X.length) (hl : X.length ≤ 4398046511104) (hp : zk 4 zb9 w a X) (hb : b < w.heap.size) (c1 : w.cell? ⟨b, 1, U⟩ = some (E J D)) :
  Calls Tryz.prog 55 #[G a n cap, .func (.func 106) #[] #[.pointer (some ⟨b, 0, U⟩)]] w fun e w' => ∃ jj : Int, e = .returned (E J jj) ∧ Idx X D jj ∧ Z w.heap.size w w' := by
 have HP := zC hn hp c1;have hnl : n ≤ 4398046511104 := by omega
 clear hn hp c1;go_enter Tryz.func55, Tryz.ntmps55
 go_wp2;go_loopw [8] (fun i w' => ∃ k : Nat, k ≤ n ∧ i = E J k ∧ Q (∀ x ∈ X.take k, x.1 ≠ D) ∧ Z w.heap.size w w') (fun i _ => n - (intOf i).toNat)
 case atStart => exact ⟨0, Nat.zero_le _, rfl, (fun x hx => by simp at hx), Below.refl _ _⟩
 case round =>
  obtain ⟨k, hk, rfl, hno, hbw⟩ := hrel;have hsz := hbw.size;by_cases hlt : k < n
  ·have hkX : k < X.length := by have := HP.out.1; omega
   have j8 := HP.out.2.1.below hbw
   obtain ⟨g, o, rfl⟩ : ∃ g o, a = some ⟨g, o, U⟩ := by
    rcases HP.out.2.1 with h | ⟨g, o, h, _⟩
    ·rw [h] at hkX; simp at hkX
    ·exact ⟨g, o, h⟩
   obtain ⟨_, d0, d1, d2, d3⟩ := zju j8 hkX;have HI : Q (X[k].1 = D → Idx X D k) := fun h => Or.inr ⟨k, hkX, rfl, h, fun j hj hj' => hno.out _ (List.mem_take_iff_getElem.2 ⟨j, by omega, rfl⟩)⟩
   have HJ : Q (X[k].1 ≠ D → ∀ x ∈ X.take (k + 1), x.1 ≠ D) := fun h x hx => by
    rw [zax hkX] at hx;rcases List.mem_append.1 hx with hx | hx
    ·exact hno.out x hx
    ·rw [List.mem_singleton.1 hx]; exact h
   have hcc := (hbw.cell (p := ⟨b, 1, U⟩) hb).trans HP.out.2.2;clear j8 hno;generalize X[k] = x at *;obtain ⟨dd, ⟨ax, cx⟩, l⟩ := x;simp only at d0 d1 d2 d3 HI HJ
   generalize l.length = nl at *;have HC : Q (b < wr.heap.size ∧ wr.cell? ⟨b, 1, U⟩ = some (E J D)) := ⟨by omega, hcc⟩;clear hcc;go_wp2_with fail
   refine (zlb dd (G ax nl cx) (.bool true) (G U 0 0) b D _ HC.out.1 HC.out.2).mono ?_;rintro e w1 ⟨rfl, hb1⟩;have hB1 := hbw.trans (hb1.mono hsz);clear d0 d1 d2 d3 hb1;by_cases hd : dd = D
   ·have HI2 : Q _ := HI.out hd
    have e : decide (dd = D) = true := by simpa using hd
    rw [e];clear e hd HI HJ;go_wp2;go_ret;exact ⟨_, rfl, HI2.out, hB1⟩
   ·have HJ2 := zA (HJ.out hd)
    have e : decide (dd = D) = false := by simpa using hd
    rw [e];clear e hd HI HJ;go_wp2;go_roundw
    case rel => exact ⟨k + 1, by omega, by go_num, HJ2, hB1⟩
    case measure => simp [intOf]; omega
  ·have HF : Q (Idx X D (-1)) := Or.inl ⟨rfl, fun x hx => hno.out x (by rw [List.take_of_length_le (by have := HP.out.1; omega)]; exact hx)⟩
   clear hno;go_wp2;go_ret;exact ⟨_, rfl, HF.out, hbw⟩
theorem infoO2 (w : World) : (zeroValue 58).run Tryz.prog w = .ok (.agg #[E J 0, G U 0 0, .bool false, G U 0 0]) w := by kernel_rfl
theorem zoq (a : Option Addr) (X : List XD) (cap n base : Nat) (b : Nat) (D : Int) (w : World) (hl : X.length ≤ 4398046511104) (jx : zd 58 4 zb9 w base (G a n cap) X) (hb : b < w.heap.size) (hne : Value.ownBlock (G a n cap) ≠ some b) (c1 : w.cell? ⟨b, 1, U⟩ = some (E J D)) :
  Calls Tryz.prog 48 #[G a n cap, .func (.func 106) #[] #[.pointer (some ⟨b, 0, U⟩)]] w fun e w' => ∃ n', e = .returned (G a n' cap) ∧ zd 58 4 zb9 w' base (G a n' cap) (X.filter fun x => !decide (x.1 = D)) ∧ w.grownBy w' (Value.ownBlock (G a n cap)) := by
 obtain ⟨a', cap', hv, j8, jV, hmax⟩ := jx.row zdy;cases hv;have HC := zou a X cap X.length b D w rfl hl j8 hb c1;have HO := zD jx c1 hne hmax;have hm63 : (cap : Int) ≤ 9223372036854775807 := by unfold maxLen at hmax; omega
 clear jx j8 c1 hne hmax;generalize hxl : X.length = n at *;have HL := zA hxl;clear hxl;go_enter Tryz.func48, Tryz.ntmps48
 go_wp2_with fail
 refine HC.mono ?_;rintro e w1 ⟨jj, rfl, hidx, hb1⟩;clear HC;rcases hidx with ⟨rfl, qQ⟩ | ⟨i0, hi0, rfl, hD, hlow⟩
 ·have HF : Q ((X.filter fun x => !decide (x.1 = D)) = X) := by
   show _ = _
   rw [List.filter_eq_self];intro x hx
   simpa using qQ x hx
  clear qQ;go_wp2;go_ret;exact ⟨n, rfl, by rw [HF.out]; exact HO.out.1.below hb1 (kaa _), zez hb1⟩
 ·rw [HL.out] at hi0
  have hi0n := hi0
  obtain ⟨g, ha⟩ : ∃ g, a = some ⟨g, 0, U⟩ := by
   rcases HO.out.1.2 with ⟨hv, h0⟩ | ⟨g, cap', cur, hv, _⟩
   ·exfalso; have := HL.out; omega
   ·cases hv; exact ⟨g, rfl⟩
  subst ha
  have hK0 : Q ((X.take (i0 + 1)).filter (fun x => !decide (x.1 = D)) = X.take i0) := by
   show _ = _
   have hx : i0 < X.length := by rw [HL.out]; exact hi0
   rw [zax hx, List.filter_append]
   have e1 : (X.take i0).filter (fun x => !decide (x.1 = D)) = X.take i0 := by
    rw [List.filter_eq_self];intro x hx';obtain ⟨j, hj, rfl⟩ := List.mem_take_iff_getElem.1 hx'
    simpa using hlow j (by omega) (by omega)
   rw [e1];simp [hD]
  have hne1 : ((i0 : Int) == -1) = false := beq_eq_false_iff_ne.2 (by omega);clear hlow hD hi0;go_wp2_with fail
  go_loopw [5, 6] (fun s5 s6 w' => ∃ (i j : Nat) (K M : List XD), s5 = E J i ∧ s6 = E J j ∧ j ≤ n ∧ i < j ∧ Q (K = (X.take j).filter (fun x => !decide (x.1 = D)) ∧ K.length = i ∧ K.length + M.length = j) ∧ zd 58 4 zb9 w' base (G (some ⟨g, 0, U⟩) n cap) (K ++ (M ++ X.drop j)) ∧ w.grownBy w' (some g)) (fun _ s6 _ => n - (intOf s6).toNat)
  case atStart =>
   have hx : i0 < X.length := by rw [HL.out]; exact hi0n
   refine ⟨i0, i0 + 1, X.take i0, [X[i0]], rfl, by go_num, by omega, by omega, ⟨hK0.out.symm, by simp; omega, by simp; omega⟩, ?_, zez hb1⟩;rw [List.singleton_append, ← List.drop_eq_getElem_cons hx, List.take_append_drop];exact HO.out.1.below hb1 (kaa _)
  case round =>
   obtain ⟨i, j, K, M, rfl, rfl, hj, hij, hKM, jx, hgr⟩ := hrel
   have jw : Q ((K ++ (M ++ X.drop j)).length = n) := by
    show _ = _
    have := hKM.out.2.2;have := HL.out;simp only [List.length_append, List.length_drop]; omega
   have hrow2 := (jx.at zdy).1;have hsz := hgr.size;by_cases hlt : j < n
   ·have hjX : j < X.length := by rw [HL.out]; exact hlt
    obtain ⟨hgl, d0, d1, d2, d3⟩ := zju hrow2 (k := j) (by rw [jw.out]; exact hlt);obtain ⟨_, t0, t1, t2, t3⟩ := zju hrow2 (k := i) (by rw [jw.out]; omega);have ho' := jx;unfold zd at ho'
    rw [jw.out] at ho';have fz : ∀ q, wr.frozen? ⟨g, q, U⟩ = false := fun q => World.ownsRow.frozenAt ho' q
    have hget : (K ++ (M ++ X.drop j))[j]'(by rw [jw.out]; exact hlt) = X[j] := by
     have h1 := hKM.out.2.2;rw [List.getElem_append_right (by omega), List.getElem_append_right (by omega)];rw [List.getElem_drop];congr 1
     omega
    rw [hget] at d0 d1;have HS := zB (List.drop_eq_getElem_cons hjX) (zax hjX);generalize (K ++ (M ++ X.drop j))[i]'(by rw [jw.out]; omega) = old at *;clear hget hrow2;generalize X[j] = x at *;have HX : Q (x = x ∧ zb9 x = [E J x.1, G x.2.1.1 x.2.2.length x.2.1.2, .bool true, G U 0 0]) := ⟨rfl, rfl⟩;obtain ⟨dd, ⟨ax, cx⟩, l⟩ := x;obtain ⟨od, ⟨oa, oc⟩, ol⟩ := old;simp only at d0 d1 t0 t1 HX
    simp only [Nat.zero_add] at d0 d1 t0 t1 d2 d3 t2 t3
    generalize l.length = nl at *;generalize ol.length = nol at *;have hblt : b < wr.heap.size := by omega
    have hcb := hgr.cell HO.out.2.1 (fun h => HO.out.2.2.1 h.symm);have HCB := zA hcb;have HW := zB jx hgr;have hi2 : (i : Int) < (n : Int) := by omega
    have fi0 := fz (i * 4);have fi1 := fz (i * 4 + 1);have fi2 := fz (i * 4 + 2);have fi3 := fz (i * 4 + 3);clear jx hgr hcb ho' fz;have hA : Z wr.heap.size wr (wr.alloc (T #[E J dd, G ax nl cx, .bool true, G U 0 0] 58)) := zg _ _;go_wp2_with fail
    refine (zlb dd (G ax nl cx) (.bool true) (G U 0 0) b D _ (by simp; omega) (by rw [Below.cell hA (by show b < _; omega)]; exact HCB.out)).mono ?_;rintro e w2 ⟨rfl, hb2⟩;have hB2 := hA.trans (hb2.mono (by simp));have hv2 : Blk w2 wr.heap.size #[E J dd, G ax nl cx, .bool true, G U 0 0] 58 := (Blk.new wr _ _).below hb2 (by simp);have v0 := hv2.cell 0;have v1 := hv2.cell 1;have v2 := hv2.cell 2;have v3 := hv2.cell 3;simp at v0 v1 v2 v3
    obtain ⟨bc, bf⟩ := zc1 hB2;have t0' := (bc g (i * 4) hgl).trans t0;have t1' := (bc g (i * 4 + 1) hgl).trans t1;have f0' := (bf g (i * 4) hgl).trans fi0;have f1' := (bf g (i * 4 + 1) hgl).trans fi1;have t2' := (bc g (i * 4 + 2) hgl).trans t2;have t3' := (bc g (i * 4 + 3) hgl).trans t3;have f2' := (bf g (i * 4 + 2) hgl).trans fi2;have f3' := (bf g (i * 4 + 3) hgl).trans fi3;have HO2 := zB (HW.out.1.below hB2 (kaa _)) (HW.out.2.trans (zez hB2));clear bc bf d0 d1 d2 d3 t0 t1 t2 t3 fi0 fi1 fi2 fi3 hA hb2 hB2 hv2 HCB HW;by_cases hd : dd = D
    ·have e : decide (dd = D) = true := by simpa using hd
     rw [e];clear e
     have HN : Q (K = (X.take (j + 1)).filter (fun x => !decide (x.1 = D)) ∧ K.length = i ∧ K.length + (M ++ [(dd, (ax, cx), l)]).length = j + 1 ∧ K ++ (M ++ X.drop j) = K ++ ((M ++ [(dd, (ax, cx), l)]) ++ X.drop (j + 1))) := by
      refine ⟨?_, hKM.out.2.1, by have := hKM.out.2.2; simp; omega, ?_⟩
      ·rw [HS.out.2, List.filter_append, ← hKM.out.1]
       simp [hd]
      ·rw [HS.out.1]; simp
     clear hd v0 v1 v2 v3 t0' t1' f0' f1' t2' t3' f2' f3';go_wp2_with fail
     go_roundw
     case rel => exact ⟨i, j + 1, K, M ++ [(dd, (ax, cx), l)], rfl, by go_num, by omega, by omega, ⟨HN.out.1, HN.out.2.1, HN.out.2.2.1⟩, by rw [← HN.out.2.2.2]; exact HO2.out.1, HO2.out.2⟩
     case measure => simp [intOf]; omega
    ·have e : decide (dd = D) = false := by simpa using hd
     rw [e];clear e
     obtain ⟨m, M', hM⟩ : ∃ m M', M = m :: M' := by
      cases M with
      | nil => exfalso; have h1 := hKM.out.2.2; have h2 := hKM.out.2.1; simp at h1; omega
      | cons m M' => exact ⟨m, M', rfl⟩
     have HN : Q (K ++ [(dd, (ax, cx), l)] = (X.take (j + 1)).filter (fun x => !decide (x.1 = D)) ∧ (K ++ [(dd, (ax, cx), l)]).length = i + 1 ∧ (K ++ [(dd, (ax, cx), l)]).length + (M' ++ [(dd, (ax, cx), l)]).length = j + 1 ∧ (K ++ (M ++ X.drop j)).set i (dd, (ax, cx), l) = (K ++ [(dd, (ax, cx), l)]) ++ ((M' ++ [(dd, (ax, cx), l)]) ++ X.drop (j + 1))) := by
      refine ⟨?_, by have := hKM.out.2.1; simp; omega, by have := hKM.out.2.2; rw [hM] at this; simp at this; simp; omega, ?_⟩
      ·rw [HS.out.2, List.filter_append, ← hKM.out.1]
       simp [hd]
      ·rw [HS.out.1, hM, List.set_append_right i _ (by have := hKM.out.2.1; omega), hKM.out.2.1, Nat.sub_self]
       simp
     have HP : Q (zd 58 4 zb9 (r (r (r (r w2 ⟨g, i * 4, U⟩ (E J dd)) ⟨g, i * 4 + 1, U⟩ (G ax nl cx)) ⟨g, i * 4 + 2, U⟩ (.bool true)) ⟨g, i * 4 + 3, U⟩ (G U 0 0)) base (G (some ⟨g, 0, U⟩) n cap) ((K ++ [(dd, (ax, cx), l)]) ++ ((M' ++ [(dd, (ax, cx), l)]) ++ X.drop (j + 1)))) := by
      rw [← HN.out.2.2.2];exact HO2.out.1.put4 zdy jw.out.symm (by rw [jw.out]; omega) HX.out.2
     have HG : Q (w.grownBy (r (r (r (r w2 ⟨g, i * 4, U⟩ (E J dd)) ⟨g, i * 4 + 1, U⟩ (G ax nl cx)) ⟨g, i * 4 + 2, U⟩ (.bool true)) ⟨g, i * 4 + 3, U⟩ (G U 0 0)) (some g)) := (((HO2.out.2.trans (zfk _ _ _ _)).trans (zfk _ _ _ _)).trans (zfk _ _ _ _)).trans (zfk _ _ _ _);clear hd hM HO2 jw;go_wp2_with fail
     go_roundw
     case rel => exact ⟨i + 1, j + 1, K ++ [(dd, (ax, cx), l)], M' ++ [(dd, (ax, cx), l)], by go_num, by go_num, by omega, by omega, ⟨HN.out.1, HN.out.2.1, HN.out.2.2.1⟩, HP.out, HG.out⟩
     case measure => simp [intOf]; omega
   ·have hjn : j = n := by omega
    subst hjn;have hdr := List.drop_eq_nil_of_le (by rw [HL.out]; exact kaa _);have hkf : K = X.filter (fun x => !decide (x.1 = D)) := by rw [hKM.out.1, List.take_of_length_le (by rw [HL.out]; exact kaa _)]
    have ho' := jx;unfold zd at ho'
    rw [jw.out] at ho';have hin := hij
    obtain ⟨vs, hcl⟩ : ∃ vs, ∀ ty, (Builtin.clear_ #[27] ty #[G (some ⟨g, i * 4, U⟩) (j - i) (cap - i)]).run Tryz.prog wr = .ok (.tuple #[]) (wr.setCells g (i * 4) vs) := by
     have h1 := zik wr 27 58 0 _ Tryz.underlying27 infoO2 (by intro u hu; simp [Value.cells] at hu; rcases hu with rfl | rfl | rfl | rfl <;> rfl) g (i * 4) (j - i) (cap - i) (by omega) (fun q hq => by
      have hq' : q < (j - i) * 4 := hq;rw [World.ownsRow.cellAt ho' _ (by omega)];have hl2 : (zy zb9 (K ++ (M ++ X.drop j))).length = j * 4 := by rw [zdh zdy, jw.out]
      rw [List.getElem?_eq_getElem (by rw [hl2]; omega)]
      rfl) (fun q _ => World.ownsRow.frozenAt ho' _)
     obtain ⟨vs, h1⟩ := h1;exact ⟨vs, fun ty => h1⟩
    have HE : Q (zd 58 4 zb9 (wr.setCells g (i * 4) vs) base (G (some ⟨g, 0, U⟩) i cap) (X.filter fun x => !decide (x.1 = D)) ∧ w.grownBy (wr.setCells g (i * 4) vs) (some g)) := by
     refine ⟨?_, hgr.trans (zii g vs _ _)⟩;rw [← hkf];exact zd.setCells zdy hKM.out.2.1.symm vs _ _ (jx.cut zdy hKM.out.2.1.symm) (by rw [hKM.out.2.1]; exact kaa _)
    clear ho' jx hgr hrow2 hdr hkf hKM jw;have hic : (i : Int) ≤ (cap : Int) := by omega
    have hjc : (j : Int) ≤ (cap : Int) := by omega
    go_wp2;go_ret;exact ⟨i, rfl, HE.out.1, HE.out.2⟩
theorem zd6 : (Tryz.prog.info? 58).map (fun i => (i.zero, i.size, i.bytes)) = some (some (.agg #[E J 0, G U 0 0, .bool false, G U 0 0]), 4, 64) := by kernel_rfl
def zgs (w : World) (a : Option Addr) (X : List XD) : Prop := zk 4 zb9 w a X ∧ ∀ x ∈ X, zai w x.2.1.1 x.2.2
theorem zgs.below {w w' : World} {a : Option Addr} {X : List XD} (h : zgs w a X) (hb : Z w.heap.size w w') : zgs w' a X := ⟨h.1.below hb, fun x hx => (h.2 x hx).below hb⟩
theorem zgs.get {w : World} {a : Option Addr} {X : List XD} (h : zgs w a X) {k : Nat} (hk : k < X.length) : ∃ b o, a = some ⟨b, o, U⟩ ∧ b < w.heap.size ∧ w.cell? ⟨b, o + k * 4, U⟩ = some (E J X[k].1) ∧
  w.cell? ⟨b, o + k * 4 + 1, U⟩ = some (.slice X[k].2.1.1 X[k].2.2.length X[k].2.1.2) ∧ w.cell? ⟨b, o + k * 4 + 2, U⟩ = some (.bool true) ∧ w.cell? ⟨b, o + k * 4 + 3, U⟩ = some (G U 0 0) ∧ zai w X[k].2.1.1 X[k].2.2 := by
 rcases h.1 with rfl | ⟨b, o, rfl, hlt, hc⟩
 ·simp at hk
 ·exact ⟨b, o, rfl, hlt, hc k hk 0 _ rfl, hc k hk 1 _ rfl, hc k hk 2 _ rfl, hc k hk 3 _ rfl, h.2 _ (List.getElem_mem hk)⟩
def HeadAt (w : World) (v : Value) (L : List R3) (g : Int × List D2) : Prop :=
 ∃ (la : Option Addr) (nl lc : Nat) (Y : List XL) (oa : Option Addr) (no oc : Nat) (XO : List XD),
  v = .agg #[G la nl lc, E J g.1, E J 0, G oa no oc] ∧ (nl = L.length ∧ Y.map zf = L ∧ zb7 w la Y) ∧ (no = XO.length ∧ XO.map zaz = g.2 ∧ zgs w oa XO)
theorem HeadAt.below {w w' : World} {v : Value} {L : List R3} {g : Int × List D2} (hh : HeadAt w v L g) (hb : Z w.heap.size w w') : HeadAt w' v L g := by
 obtain ⟨la, nl, lc, Y, oa, no, oc, XO, hv, ⟨h1, h2, h3⟩, h4, h5, h6⟩ := hh;exact ⟨la, nl, lc, Y, oa, no, oc, XO, hv, ⟨h1, h2, h3.below hb⟩, h4, h5, h6.below hb⟩
def GAt (B base : Nat) (lv : Value) (w : World) (g : Int × List D2) : Prop :=
 ∃ (oa : Option Addr) (no oc : Nat) (XO : List XD),
  Blk w B #[lv, E J g.1, E J 0, G oa no oc] 29 ∧ zd 58 4 zb9 w base (G oa no oc) XO ∧ (∀ x ∈ XO, zam base w x.2.1.1 x.2.2) ∧ XO.map zaz = g.2
theorem GAt.below {B base : Nat} {lv : Value} {w w' : World} {g : Int × List D2} (hh : GAt B base lv w g) (hb : Z w.heap.size w w') : GAt B base lv w' g := by
 obtain ⟨oa, no, oc, XO, h1, h2, h3, h4⟩ := hh;exact ⟨oa, no, oc, XO, h1.below hb h1.lt, h2.below hb (kaa _), fun x hx => (h3 x hx).calm (zi.below hb (kaa _)), h4⟩
theorem GAt.put3 {B base : Nat} {lv old : Value} {w : World} {t : Int} {a : Option Addr} {n c : Nat} {XO : List XD} (hB : Blk w B #[lv, E J t, E J 0, old] 29) (hR : zd 58 4 zb9 w base (G a n c) XO) (hT : ∀ x ∈ XO, zam base w x.2.1.1 x.2.2) :
  GAt B base lv (r w ⟨B, 3, U⟩ (G a n c)) (t, XO.map zaz) :=
 ⟨a, n, c, XO, hB.set 3 _, hR.setOther (a := ⟨B, 3, U⟩) hB (by decide) _, fun x hx => (hT x hx).calm (zi.setCell (a := ⟨B, 3, U⟩) hB (by decide) _), rfl⟩
theorem GAt.put1 {B base : Nat} {lv old : Value} {w : World} {t : Int} {a : Option Addr} {n c : Nat} {XO : List XD} (hB : Blk w B #[lv, old, E J 0, G a n c] 29) (hR : zd 58 4 zb9 w base (G a n c) XO) (hT : ∀ x ∈ XO, zam base w x.2.1.1 x.2.2) :
  GAt B base lv (r w ⟨B, 1, U⟩ (E J t)) (t, XO.map zaz) :=
 ⟨a, n, c, XO, hB.set 1 _, hR.setOther (a := ⟨B, 1, U⟩) hB (by decide) _, fun x hx => (hT x hx).calm (zi.setCell (a := ⟨B, 1, U⟩) hB (by decide) _), rfl⟩
theorem zqc {g : Int × List D2} {jj : R3} (h1 : ¬ jj.1 = 4) (h2 : ¬ jj.1 = 5) (h3 : ¬ jj.1 = 6) : zdf g jj = g := by unfold zdf; rw [if_neg h1, if_neg h2, if_neg h3]
theorem fill4 {w : World} {N : Nat} {zV : TypeId} {c0 c1 c2 c3 : Value} (hb : Blk w N #[c0, c1, c2, c3] zV) (v0 v1 v2 v3 : Value) :
  Blk (r (r (r (r w ⟨N, 0, U⟩ v0) ⟨N, 1, U⟩ v1) ⟨N, 2, U⟩ v2) ⟨N, 3, U⟩ v3) N #[v0, v1, v2, v3] zV ∧ zbx zV w (r (r (r (r w ⟨N, 0, U⟩ v0) ⟨N, 1, U⟩ v1) ⟨N, 2, U⟩ v2) ⟨N, 3, U⟩ v3) := by
 have b0 : Blk (r w ⟨N, 0, U⟩ v0) N #[v0, c1, c2, c3] zV := hb.set 0 v0;have b1 : Blk (r (r w ⟨N, 0, U⟩ v0) ⟨N, 1, U⟩ v1) N #[v0, v1, c2, c3] zV := b0.set 1 v1;have b2 : Blk (r (r (r w ⟨N, 0, U⟩ v0) ⟨N, 1, U⟩ v1) ⟨N, 2, U⟩ v2) N #[v0, v1, v2, c3] zV := b1.set 2 v2;have b3 : Blk (r (r (r (r w ⟨N, 0, U⟩ v0) ⟨N, 1, U⟩ v1) ⟨N, 2, U⟩ v2) ⟨N, 3, U⟩ v3) N #[v0, v1, v2, v3] zV := b2.set 3 v3;exact ⟨b3, (((zbx.setCell (a := ⟨N, 0, U⟩) hb v0).trans (zbx.setCell (a := ⟨N, 1, U⟩) b0 v1)).trans (zbx.setCell (a := ⟨N, 2, U⟩) b1 v2)).trans (zbx.setCell (a := ⟨N, 3, U⟩) b2 v3)⟩
end Go.Proofs.YtpcnlifmkhagkaaGreat
