import Derived.Test.YtpcnlifmkhagkaaGreatKTJ16
set_option maxRecDepth 20000
set_option maxHeartbeats 20000000
namespace Go.Proofs.YtpcnlifmkhagkaaGreat
open Go.RowKit
open Go.Value renaming slice → G, int → E
open Go.IntKind renaming i64 → J
open _root_.Option renaming none → U
open Go.Obj renaming cells → T
open Go.RowKit renaming Hid → Q, Below → Z
open Go.World renaming setCell → r
open _root_.List renaming mem_append → kaa, mem_singleton → kac, mem_map → kae, mem_cons → kaf, mem_filter → kah, nodup_append → kai, getElem?_toArray → kaj, getElem?_cons_zero → kak
open _root_.Or renaming inr → kab, inl → kad
open Go.Value renaming ownBlock → kag
attribute [local go_sem ↓] Go.wp_at_zero Go.wp_at_succ
theorem zht {w : World} {g o : Nat} {X : List Int} (h : zi 1 zu w (some ⟨g, o, U⟩) X) {k : Nat} (hk : k < X.length) : g < w.heap.size ∧ w.cell? ⟨g, o + k, U⟩ = some (E J X[k]) := by
 rcases h with rfl | ⟨b, o', e, hlt, hc⟩
 ·simp at hk
 ·cases e
  have h0 := hc k hk 0 _ rfl;rw [Nat.mul_one, Nat.add_zero] at h0;exact ⟨hlt, h0⟩
theorem zou (F b : Nat) (hF : zfb F) (p : Int → Bool) (a : Option Addr) (X : List Int) (cap n : Nat) (w : World) (hn : n = X.length) (hl : X.length ≤ 9223372036854775807) (hp : zi 1 zu w a X)
  (hf : ∀ x ∈ X, ∀ w', Z w.heap.size w w' → Calls Tryz.prog F #[E J x, .pointer (some ⟨b, 0, U⟩)] w' fun e w'' => e = .returned (.bool (p x)) ∧ Z w'.heap.size w' w'') :
  Calls Tryz.prog 130 #[G a n cap, .func (.func F) #[] #[.pointer (some ⟨b, 0, U⟩)]] w fun e w' => ∃ jj : Int, e = .returned (E J jj) ∧ IdxP X p jj ∧ Z w.heap.size w w' := by
 have HP := zB hn hp;have HFn := zA hf;have hnl : n ≤ 9223372036854775807 := by omega
 clear hn hp hf;go_enter Tryz.func130, Tryz.ntmps130
 go_wp2;go_loopw [8] (fun i w' => ∃ k : Nat, k ≤ n ∧ i = E J k ∧ Q (∀ x ∈ X.take k, p x = false) ∧ Z w.heap.size w w') (fun i _ => n - (intOf i).toNat)
 case atStart => exact ⟨0, Nat.zero_le _, rfl, (fun x hx => by simp at hx), Below.refl _ _⟩
 case round =>
  obtain ⟨k, hk, rfl, hno, hbw⟩ := hrel;have hsz := hbw.size;by_cases hlt : k < n
  ·have hkX : k < X.length := by have := HP.out.1; omega
   have hrow := HP.out.2.below hbw
   obtain ⟨g, o, rfl⟩ : ∃ g o, a = some ⟨g, o, U⟩ := by
    rcases HP.out.2 with h | ⟨g, o, h, _⟩
    ·rw [h] at hkX; simp at hkX
    ·exact ⟨g, o, h⟩
   obtain ⟨_, d0⟩ := zht hrow hkX;have HI : Q (p X[k] = true → IdxP X p k) := fun h => kab ⟨k, hkX, rfl, h, fun j hj hj' => hno.out _ (List.mem_take_iff_getElem.2 ⟨j, by omega, rfl⟩)⟩
   have HJ : Q (p X[k] = false → ∀ x ∈ X.take (k + 1), p x = false) := fun h x hx => by
    rw [zav hkX] at hx;rcases kaa.1 hx with hx | hx
    ·exact hno.out x hx
    ·rw [kac.1 hx]; exact h
   have HC := HFn.out _ (List.getElem_mem hkX) wr hbw;clear hrow hno;generalize X[k] = x at *;generalize p x = pb at *;go_wp2_with fail
   rw [hF.out, Oper.upon_enter];refine HC.mono ?_;rintro e w1 ⟨rfl, hb1⟩;have hB1 := hbw.trans (hb1.mono hsz);clear d0 hb1 HC;cases pb
   ·have HJ2 := zA (HJ.out rfl)
    clear HI HJ;go_wp2;go_roundw
    case rel => exact ⟨k + 1, by omega, by go_num, HJ2, hB1⟩
    case measure => simp [intOf]; omega
   ·have HI2 : Q _ := HI.out rfl
    clear HI HJ;go_wp2;go_ret;exact ⟨_, rfl, HI2.out, hB1⟩
  ·have HF : Q (IdxP X p (-1)) := kad ⟨rfl, fun x hx => hno.out x (by rw [List.take_of_length_le (by have := HP.out.1; omega)]; exact hx)⟩
   clear hno;go_wp2;go_ret;exact ⟨_, rfl, HF.out, hbw⟩
theorem infoI2 (w : World) : (zeroValue 3).run Tryz.prog w = .ok (E J 0) w := by kernel_rfl
theorem znw (F b : Nat) (hF : zfb F) (p : Int → Bool) (a : Option Addr) (X : List Int) (cap n base : Nat) (w : World) (hl : X.length ≤ 4398046511104) (hown : za 3 1 zu w base (G a n cap) X)
  (hf : ∀ x ∈ X, ∀ w', w.grownBy w' (kag (G a n cap)) → Calls Tryz.prog F #[E J x, .pointer (some ⟨b, 0, U⟩)] w' fun e w'' => e = .returned (.bool (p x)) ∧ Z w'.heap.size w' w'') :
  Calls Tryz.prog 110 #[G a n cap, .func (.func F) #[] #[.pointer (some ⟨b, 0, U⟩)]] w fun e w' => ∃ n', e = .returned (G a n' cap) ∧ za 3 1 zu w' base (G a n' cap) (X.filter fun x => !p x) ∧ w.grownBy w' (kag (G a n cap)) := by
 obtain ⟨a', cap', hv, hrow, hcap, hmax⟩ := hown.row zaf;cases hv;have HC := zou F b hF p a X cap X.length w rfl (by omega) hrow (fun x hx w' hb => hf x hx w' (zez hb));have HO := zC hown hf hmax;have hm63 : (cap : Int) ≤ 9223372036854775807 := by unfold maxLen at hmax; omega
 clear hown hrow hf hmax;generalize hxl : X.length = n at *;have HL := zA hxl;clear hxl;go_enter Tryz.func110, Tryz.ntmps110
 go_wp2_with fail
 refine HC.mono ?_;rintro e w1 ⟨jj, rfl, hidx, hb1⟩;clear HC;rcases hidx with ⟨rfl, hall⟩ | ⟨i0, hi0, rfl, hD, hlow⟩
 ·have HF : Q ((X.filter fun x => !p x) = X) := by
   show _ = _
   rw [List.filter_eq_self];intro x hx;rw [hall x hx]; rfl
  clear hall;go_wp2;go_ret;exact ⟨n, rfl, by rw [HF.out]; exact HO.out.1.below hb1 (Nat.le_refl _), zez hb1⟩
 ·rw [HL.out] at hi0
  have hi0n := hi0
  obtain ⟨g, ha⟩ : ∃ g, a = some ⟨g, 0, U⟩ := by
   rcases HO.out.1.2 with ⟨hv, h0⟩ | ⟨g, cap', cur, hv, _⟩
   ·exfalso; have := HL.out; omega
   ·cases hv; exact ⟨g, rfl⟩
  subst ha
  have hK0 : Q ((X.take (i0 + 1)).filter (fun x => !p x) = X.take i0) := by
   show _ = _
   have hx : i0 < X.length := by rw [HL.out]; exact hi0
   rw [zav hx, List.filter_append]
   have e1 : (X.take i0).filter (fun x => !p x) = X.take i0 := by
    rw [List.filter_eq_self];intro x hx';obtain ⟨j, hj, rfl⟩ := List.mem_take_iff_getElem.1 hx';rw [hlow j (by omega) (by omega)]; rfl
   rw [e1];simp [hD]
  have hne1 : ((i0 : Int) == -1) = false := beq_eq_false_iff_ne.2 (by omega);clear hlow hD hi0;go_wp2_with fail
  go_loopw [5, 6] (fun s5 s6 w' => ∃ (i j : Nat) (K M : List Int), s5 = E J i ∧ s6 = E J j ∧ j ≤ n ∧ i < j ∧ Q (K = (X.take j).filter (fun x => !p x) ∧ K.length = i ∧ K.length + M.length = j) ∧ za 3 1 zu w' base (G (some ⟨g, 0, U⟩) n cap) (K ++ (M ++ X.drop j)) ∧ w.grownBy w' (some g)) (fun _ s6 _ => n - (intOf s6).toNat)
  case atStart =>
   have hx : i0 < X.length := by rw [HL.out]; exact hi0n
   refine ⟨i0, i0 + 1, X.take i0, [X[i0]], rfl, by go_num, by omega, by omega, ⟨hK0.out.symm, by simp; omega, by simp; omega⟩, ?_, zez hb1⟩;rw [List.singleton_append, ← List.drop_eq_getElem_cons hx, List.take_append_drop];exact HO.out.1.below hb1 (Nat.le_refl _)
  case round =>
   obtain ⟨i, j, K, M, rfl, rfl, hj, hij, hKM, hown, hgr⟩ := hrel
   have hlen : Q ((K ++ (M ++ X.drop j)).length = n) := by
    show _ = _
    have := hKM.out.2.2;have := HL.out;simp only [List.length_append, List.length_drop]; omega
   have hrow2 := (hown.at zaf).1;have hsz := hgr.size;by_cases hlt : j < n
   ·have hjX : j < X.length := by rw [HL.out]; exact hlt
    obtain ⟨hgl, d0⟩ := zht hrow2 (k := j) (by rw [hlen.out]; exact hlt);obtain ⟨_, t0⟩ := zht hrow2 (k := i) (by rw [hlen.out]; omega);have ho' := hown;unfold za at ho'
    rw [hlen.out] at ho';have fz : ∀ q, wr.frozen? ⟨g, q, U⟩ = false := fun q => World.ownsRow.frozenAt ho' q
    have hget : (K ++ (M ++ X.drop j))[j]'(by rw [hlen.out]; exact hlt) = X[j] := by
     have h1 := hKM.out.2.2;rw [List.getElem_append_right (by omega), List.getElem_append_right (by omega)];rw [List.getElem_drop];congr 1
     omega
    rw [hget] at d0;have HS := zB (List.drop_eq_getElem_cons hjX) (zav hjX);have HC := HO.out.2.1 _ (List.getElem_mem hjX) wr hgr;generalize (K ++ (M ++ X.drop j))[i]'(by rw [hlen.out]; omega) = old at *;clear hget hrow2;generalize X[j] = x at *;simp only [Nat.zero_add] at d0 t0
    have HW := zB hown hgr;have hi2 : (i : Int) < (n : Int) := by omega
    have fi0 := fz i;obtain ⟨pb, hpb⟩ : ∃ pb, Q (p x = pb) := ⟨_, rfl⟩;rw [hpb.out] at HC;clear hown hgr ho' fz;go_wp2_with fail
    rw [hF.out, Oper.upon_enter];refine HC.mono ?_;rintro e w2 ⟨rfl, hb2⟩;obtain ⟨bc, bf⟩ := zc0 hb2;have t0' := (bc g i hgl).trans t0;have f0' := (bf g i hgl).trans fi0;have HO2 := zB (HW.out.1.below hb2 (Nat.le_refl _)) (HW.out.2.trans (zez hb2));have hgl2 := Nat.lt_of_lt_of_le hgl hb2.size;clear bc bf d0 t0 fi0 hb2 HW HC
    cases pb with
    | true =>
     have HN : Q (K = (X.take (j + 1)).filter (fun x => !p x) ∧ K.length = i ∧ K.length + (M ++ [x]).length = j + 1 ∧ K ++ (M ++ X.drop j) = K ++ ((M ++ [x]) ++ X.drop (j + 1))) := by
      refine ⟨?_, hKM.out.2.1, by have := hKM.out.2.2; simp; omega, ?_⟩
      ·rw [HS.out.2, List.filter_append, ← hKM.out.1]
       simp [hpb.out]
      ·rw [HS.out.1]; simp
     clear t0' f0';go_wp2_with fail
     go_roundw
     case rel => exact ⟨i, j + 1, K, M ++ [x], rfl, by go_num, by omega, by omega, ⟨HN.out.1, HN.out.2.1, HN.out.2.2.1⟩, by rw [← HN.out.2.2.2]; exact HO2.out.1, HO2.out.2⟩
     case measure => simp [intOf]; omega
    | false =>
     obtain ⟨m, M', hM⟩ : ∃ m M', M = m :: M' := by
      cases M with
      | nil => exfalso; have h1 := hKM.out.2.2; have h2 := hKM.out.2.1; simp at h1; omega
      | cons m M' => exact ⟨m, M', rfl⟩
     have HN : Q (K ++ [x] = (X.take (j + 1)).filter (fun x => !p x) ∧ (K ++ [x]).length = i + 1 ∧ (K ++ [x]).length + (M' ++ [x]).length = j + 1 ∧ (K ++ (M ++ X.drop j)).set i x = (K ++ [x]) ++ ((M' ++ [x]) ++ X.drop (j + 1))) := by
      refine ⟨?_, by have := hKM.out.2.1; simp; omega, by have := hKM.out.2.2; rw [hM] at this; simp at this; simp; omega, ?_⟩
      ·rw [HS.out.2, List.filter_append, ← hKM.out.1]
       simp [hpb.out]
      ·rw [HS.out.1, hM, List.set_append_right i _ (by have := hKM.out.2.1; omega), hKM.out.2.1, Nat.sub_self]
       simp
     have HP : Q (za 3 1 zu (r w2 ⟨g, i, U⟩ (E J x)) base (G (some ⟨g, 0, U⟩) n cap) ((K ++ [x]) ++ ((M' ++ [x]) ++ X.drop (j + 1)))) := by
      rw [← HN.out.2.2.2];have h := HO2.out.1.putN zaf (i := i) (by rw [hlen.out]; omega) x;rw [Nat.mul_one] at h;exact h
     have HG : Q (w.grownBy (r w2 ⟨g, i, U⟩ (E J x)) (some g)) := HO2.out.2.trans (zfc _ _ _ _);clear hM HO2 hlen;go_wp2_with fail
     go_roundw
     case rel => exact ⟨i + 1, j + 1, K ++ [x], M' ++ [x], by go_num, by go_num, by omega, by omega, ⟨HN.out.1, HN.out.2.1, HN.out.2.2.1⟩, HP.out, HG.out⟩
     case measure => simp [intOf]; omega
   ·have hjn : j = n := by omega
    subst hjn;have hdr := List.drop_eq_nil_of_le (by rw [HL.out]; exact Nat.le_refl _);have hkf : K = X.filter (fun x => !p x) := by rw [hKM.out.1, List.take_of_length_le (by rw [HL.out]; exact Nat.le_refl _)]
    have ho' := hown;unfold za at ho'
    rw [hlen.out] at ho';have hin := hij
    obtain ⟨vs, hcl⟩ : ∃ vs, ∀ ty, (Builtin.clear_ #[56] ty #[G (some ⟨g, i, U⟩) (j - i) (cap - i)]).run Tryz.prog wr = .ok (.tuple #[]) (wr.setCells g i vs) := by
     have h1 := zh8 wr 56 3 0 _ Tryz.underlying56 infoI2 (by intro u hu; simp [Value.cells] at hu; rcases hu with rfl; rfl) g i (j - i) (cap - i) (by omega) (fun q hq => by
      have hq' : q < (j - i) * 1 := hq;rw [World.ownsRow.cellAt ho' _ (by omega)];have hl2 : (zx zu (K ++ (M ++ X.drop j))).length = j * 1 := by rw [zdh zaf, hlen.out]
      rw [List.getElem?_eq_getElem (by rw [hl2]; omega)]
      rfl) (fun q _ => World.ownsRow.frozenAt ho' _)
     obtain ⟨vs, h1⟩ := h1;exact ⟨vs, fun ty => h1⟩
    have HE : Q (za 3 1 zu (wr.setCells g i vs) base (G (some ⟨g, 0, U⟩) i cap) (X.filter fun x => !p x) ∧ w.grownBy (wr.setCells g i vs) (some g)) := by
     refine ⟨?_, hgr.trans (zh2 g vs _ _)⟩;rw [← hkf];exact za.setCells zaf hKM.out.2.1.symm vs _ _ (hown.cut zaf hKM.out.2.1.symm) (by rw [hKM.out.2.1]; omega)
    clear ho' hown hgr hrow2 hdr hkf hKM hlen;have hic : (i : Int) ≤ (cap : Int) := by omega
    have hjc : (j : Int) ≤ (cap : Int) := by omega
    go_wp2;go_ret;exact ⟨i, rfl, HE.out.1, HE.out.2⟩
def insI (x : Int) : List Int → List Int
 | [] => [x]
 | y :: t => if x ≤ y then x :: y :: t else y :: insI x t
def zff : List Int → List Int
 | [] => []
 | x :: t => insI x (zff t)
theorem zj8 (x : Int) : ∀ l : List Int, (insI x l).Perm (x :: l)
 | [] => List.Perm.refl _
 | y :: t => by
  unfold insI
  split
  ·exact List.Perm.refl _
  ·exact ((zj8 x t).cons y).trans (List.Perm.swap x y t)
theorem zk0 : ∀ l : List Int, (zff l).Perm l
 | [] => List.Perm.refl _
 | x :: t => (zj8 x _).trans ((zk0 t).cons x)
theorem zlw (x : Int) : ∀ l : List Int, l.Pairwise (· ≤ ·) → (insI x l).Pairwise (· ≤ ·)
 | [], _ => List.pairwise_singleton _ _
 | y :: t, h => by
  cases h with
  | cons hy ht =>
   unfold insI
   split
   ·rename_i hxy
    refine List.Pairwise.cons (fun z hz => ?_) (List.Pairwise.cons hy ht);rcases kaf.1 hz with rfl | hz
    ·exact hxy
    ·exact Int.le_trans hxy (hy z hz)
   ·rename_i hxy
    refine List.Pairwise.cons (fun z hz => ?_) (zlw x t ht);rcases kaf.1 ((zj8 x t).mem_iff.1 hz) with rfl | hz
    ·omega
    ·exact hy z hz
theorem znc : ∀ l : List Int, (zff l).Pairwise (· ≤ ·)
 | [] => List.Pairwise.nil
 | x :: t => zlw x _ (znc t)
theorem zn0 (l : List Int) : (l.mergeSort fun x y => decide (x ≤ y)) = zff l := by
 refine List.Perm.eq_of_pairwise (le := fun a b : Int => a ≤ b) (fun a b _ _ h1 h2 => Int.le_antisymm h1 h2) ?_ (znc l) ((List.mergeSort_perm _ _).trans (zk0 l).symm);have := List.pairwise_mergeSort (le := fun x y : Int => decide (x ≤ y)) (fun a b c h1 h2 => by simp at *; omega) (fun a b => by simp; omega) l;exact this.imp (fun h => by simpa using h)
theorem fin1 : ∀ a ∈ ([0, 1, 2] : List Int), Lib.compact (zff [a]) = ([0, 1, 2] : List Int).filter fun n => decide (n ∈ [a]) := by decide +kernel
theorem fin2 : ∀ a ∈ ([0, 1, 2] : List Int), ∀ b ∈ ([0, 1, 2] : List Int), Lib.compact (zff [a, b]) = ([0, 1, 2] : List Int).filter fun n => decide (n ∈ [a, b]) := by decide +kernel
theorem fin3 : ∀ a ∈ ([0, 1, 2] : List Int), ∀ b ∈ ([0, 1, 2] : List Int), ∀ c ∈ ([0, 1, 2] : List Int), Lib.compact (zff [a, b, c]) = ([0, 1, 2] : List Int).filter fun n => decide (n ∈ [a, b, c]) := by decide +kernel
theorem fin4 : ∀ a ∈ ([0, 1, 2] : List Int), ∀ b ∈ ([0, 1, 2] : List Int), ∀ c ∈ ([0, 1, 2] : List Int), ∀ d ∈ ([0, 1, 2] : List Int), Lib.compact (zff [a, b, c, d]) = ([0, 1, 2] : List Int).filter fun n => decide (n ∈ [a, b, c, d]) := by decide +kernel
theorem fin_all (ms : List Int) (h1 : 1 ≤ ms.length) (h4 : ms.length ≤ 4) (h : ∀ m ∈ ms, m ∈ ([0, 1, 2] : List Int)) : Lib.compact (zff ms) = ([0, 1, 2] : List Int).filter fun n => decide (n ∈ ms) := by
 match ms, h1, h4, h with
 | [a], _, _, h => exact fin1 a (h a (by simp))
 | [a, b], _, _, h => exact fin2 a (h a (by simp)) b (h b (by simp))
 | [a, b, c], _, _, h => exact fin3 a (h a (by simp)) b (h b (by simp)) c (h c (by simp))
 | [a, b, c, d], _, _, h => exact fin4 a (h a (by simp)) b (h b (by simp)) c (h c (by simp)) d (h d (by simp))
theorem ofB_pos (l : List P3) (n : Int) : 0 < (ofB l n).length ↔ n ∈ l.map (·.1) := by
 rw [List.length_pos_iff_exists_mem];simp only [ofB, kah, decide_eq_true_eq, kae]
theorem zoo {l : List P3} (h1 : 1 ≤ l.length) (h4 : l.length ≤ 4) (h : ∀ p ∈ l, inB p 3 = true) : zhn l = zdw l 3 := by
 unfold zhn sortB zdw
 rw [zn0, fin_all (l.map (·.1)) (by simpa using h1) (by simpa using h4) ?_]
 ·refine List.filter_congr (fun n hn => ?_)
  have : n < 3 := by simp at hn; omega
  simp only [this, ofB_pos, true_and]
 ·intro m hm
  obtain ⟨p, hp, rfl⟩ := kae.1 hm;have := h p hp;simp only [inB, decide_eq_true_eq] at this
  simp; omega
def zdy (W : WW) (k d : Int) : Prop := zab (zd (W.at k)).2.1 d = true
def dnW (W : WW) (k d : Int) : Prop := inI (zd (W.at k)).2.2 d = true
def undW (W : WW) (d : Int) : Prop := ∃ o ∈ W.hd.opn, o.1 = d ∧ o.2.2.1 = false
def zdm (W : WW) (d : Int) : Prop := ∃ o ∈ W.hd.opn, o.1 = d
def zbc (W : WW) (d : Int) : Prop := ∃ x ∈ zan W.hd.log, x.1 = d
def za1 (W : WW) : Int := 64 * W.hd.boot + W.hd.next
structure zbo (n : Nat) (P : Int → List P3) (W : WW) (m : Q4) : Prop where
 right : za9 m.1 m.2.1 m.2.2.1 m.2.2.2 = 0
 here : m.2.2.1 < n
 old : m.2.1 < za1 W
 prep : m.1 = 1 → m.2.2.2 = ofB (P m.2.1) m.2.2.1 ∧ m.2.2.1 ∈ zr (P m.2.1)
 yes : m.1 = 2 → undW W m.2.1 → zdy W m.2.2.1 m.2.1
 com : m.1 = 4 → zbc W m.2.1 ∧ m.2.2.1 ∈ zr (P m.2.1)
 abo : m.1 = 5 → ¬ zdm W m.2.1 ∧ (zbc W m.2.1 → dnW W m.2.2.1 m.2.1)
 ack : m.1 = 6 → dnW W m.2.2.1 m.2.1
 ask : m.1 = 7 → m.2.2.1 ∈ zr (P m.2.1)
structure zdu (P P' : Int → List P3) (W W' : WW) : Prop where
 num : za1 W ≤ za1 W'
 same : ∀ d, d < za1 W → P' d = P d
 dcd : ∀ d, zbc W d → zbc W' d
 dcd2 : ∀ d, d < za1 W → zbc W' d → ¬ zdm W d → zbc W d
 dn : ∀ k d, dnW W k d → dnW W' k d
 und : ∀ d, d < za1 W → undW W' d → undW W d
 opn : ∀ d, d < za1 W → zdm W' d → zdm W d
 rdyU : ∀ k d, d < za1 W → undW W' d → zdy W k d → zdy W' k d
 rdyD : ∀ k d, zbc W d → zdy W k d → zdy W' k d ∨ dnW W' k d
theorem zbo.mono {n : Nat} {P P' : Int → List P3} {W W' : WW} {m : Q4} (h : zbo n P W m) (M : zdu P P' W W') : zbo n P' W' m := by
 have hs := M.same _ h.old;refine ⟨h.right, h.here, Int.lt_of_lt_of_le h.old M.num, ?_, ?_, ?_, ?_, ?_, ?_⟩
 ·intro k; rw [hs]; exact h.prep k
 ·intro k hu; exact M.rdyU _ _ h.old hu (h.yes k (M.und _ h.old hu))
 ·intro k; rw [hs]; exact ⟨M.dcd _ (h.com k).1, (h.com k).2⟩
 ·intro k
  obtain ⟨h1, h2⟩ := h.abo k;exact ⟨fun ho => h1 (M.opn _ h.old ho), fun hd => M.dn _ _ (h2 (M.dcd2 _ h.old hd h1))⟩
 ·intro k; exact M.dn _ _ (h.ack k)
 ·intro k; rw [hs]; exact h.ask k
structure zgp (n : Nat) (P : Int → List P3) (W : WW) (o : O4) : Prop where
 pos : 0 ≤ o.1
 old : o.1 < za1 W
 parts : o.2.1 = P o.1
 right : zax o.2.1 n = 0
 nd : o.2.2.2.Nodup
 sub : ∀ k ∈ o.2.2.2, k ∈ zr o.2.1
 less : o.2.2.2.length < (zr o.2.1).length
 dec : o.2.2.1 = true ↔ zbc W o.1
 rdy : o.2.2.1 = false → ∀ k ∈ o.2.2.2, zdy W k o.1
 dn : o.2.2.1 = true → ∀ k ∈ o.2.2.2, dnW W k o.1
structure HouOK (P : Int → List P3) (W : WW) (k : Int) : Prop where
 good : zdt (W.at k)
 old : ∀ x ∈ (zd (W.at k)).2.1, x.1 < za1 W
 parts : ∀ x ∈ (zd (W.at k)).2.1, x.2 = ofB (P x.1) k ∧ k ∈ zr (P x.1)
 nd : (zd (W.at k)).2.2.Nodup
 done : ∀ d ∈ (zd (W.at k)).2.2, zbc W d ∧ k ∈ zr (P d)
 apart : ∀ d ∈ (zd (W.at k)).2.2, zab (zd (W.at k)).2.1 d = false
 sums : (zd (W.at k)).1 = (zd (W.at k)).2.2.foldl (fun s d => doB s (ofB (P d) k)) (0, 0, 0, 0)
structure Inv (n : Nat) (P : Int → List P3) (W : WW) : Prop where
 n3 : n ≤ 3
 len : W.hs.length = n
 boot1 : 1 ≤ W.hd.boot
 boot20 : W.hd.boot ≤ 20
 next0 : 0 ≤ W.hd.next
 next64 : W.hd.next ≤ 64
 bootL : W.hd.boot = (zaa W.hd.log).1
 small : W.net.length ≤ 24
 few : W.hd.opn.length ≤ 12
 apart : (W.hd.opn.map (·.1)).Nodup
 opn : ∀ o ∈ W.hd.opn, zgp n P W o
 dec : ∀ x ∈ zan W.hd.log, 0 ≤ x.1 ∧ x.1 < za1 W ∧ x.2 = P x.1 ∧ zax x.2 n = 0
 decNd : ((zan W.hd.log).map (·.1)).Nodup
 dr : ∀ x ∈ zan W.hd.log, ∀ k ∈ zr x.2, zdy W k x.1 ∨ dnW W k x.1
 en : ∀ x ∈ zan W.hd.log, ¬ zdm W x.1 → ∀ k ∈ zr x.2, dnW W k x.1
 hl : ∀ d, (∃ x ∈ (zaa W.hd.log).2, x.1 = d) ↔ ∃ o ∈ W.hd.opn, o.1 = d ∧ o.2.2.1 = true
 hlNd : ((zaa W.hd.log).2.map (·.1)).Nodup
 hlIn : ∀ x ∈ (zaa W.hd.log).2, x ∈ zan W.hd.log
 net : ∀ m ∈ W.net, zbo n P W m
 hou : ∀ k : Int, 0 ≤ k → k < n → HouOK P W k
theorem zf2 {n : Nat} {P : Int → List P3} {W : WW} (I : Inv n P W) : za1 W ≤ 1344 := by
 have h1 := I.boot20;have h2 := I.next64;unfold za1
 omega
theorem und_not {n : Nat} {P : Int → List P3} {W : WW} (I : Inv n P W) {d : Int} (h : undW W d) : ¬ zbc W d := by
 obtain ⟨o, ho, rfl, hd⟩ := h;intro hc;have := (I.opn o ho).dec.2 hc;rw [hd] at this;cases this
theorem zlq {α : Type} : ∀ {l : List α} {f : α → Int}, (l.map f).Nodup → ∀ x ∈ l, ∀ y ∈ l, f x = f y → x = y
 | [], _, _, x, hx => by cases hx
 | a :: t, f, h, x, hx => by
  intro y hy e;rw [List.map_cons, List.nodup_cons] at h;rcases kaf.1 hx with ex | hx
  ·rcases kaf.1 hy with ey | hy
   ·rw [ex, ey]
   ·exact absurd (by rw [← ex, e]; exact kae.2 ⟨y, hy, rfl⟩) h.1
  ·rcases kaf.1 hy with ey | hy
   ·exact absurd (by rw [← ey, ← e]; exact kae.2 ⟨x, hx, rfl⟩) h.1
   ·exact zlq h.2 x hx y hy e
theorem Inv.netOf {n : Nat} {P : Int → List P3} {W : WW} (I : Inv n P W) {net : List Q4} (hl : net.length ≤ 24) (hm : ∀ m ∈ net, zbo n P W m) : Inv n P { W with net := net } :=
 ⟨I.n3, I.len, I.boot1, I.boot20, I.next0, I.next64, I.bootL, hl, I.few, I.apart, fun o ho => ⟨(I.opn o ho).pos, (I.opn o ho).old, (I.opn o ho).parts, (I.opn o ho).right, (I.opn o ho).nd, (I.opn o ho).sub, (I.opn o ho).less, (I.opn o ho).dec, (I.opn o ho).rdy, (I.opn o ho).dn⟩, I.dec, I.decNd, I.dr, I.en, I.hl, I.hlNd, I.hlIn,
  fun m hm' => ⟨(hm m hm').right, (hm m hm').here, (hm m hm').old, (hm m hm').prep, (hm m hm').yes, (hm m hm').com, (hm m hm').abo, (hm m hm').ack, (hm m hm').ask⟩,
  fun k h0 hk => ⟨(I.hou k h0 hk).good, (I.hou k h0 hk).old, (I.hou k h0 hk).parts, (I.hou k h0 hk).nd, (I.hou k h0 hk).done, (I.hou k h0 hk).apart, (I.hou k h0 hk).sums⟩⟩
theorem sendB_len {net ms : List Q4} (h : net.length ≤ 24) : (zbt net ms).length ≤ 24 := by
 unfold zbt
 rw [List.length_append, List.length_take];omega
theorem mem_sendB {net ms : List Q4} {m : Q4} (h : m ∈ zbt net ms) : m ∈ net ∨ m ∈ ms := by
 unfold zbt at h
 rcases kaa.1 h with h | h
 ·exact kad h
 ·exact kab (List.mem_of_mem_take h)
theorem Inv.send {n : Nat} {P : Int → List P3} {W : WW} (I : Inv n P W) {ms : List Q4} (hm : ∀ m ∈ ms, zbo n P W m) : Inv n P { W with net := zbt W.net ms } :=
 I.netOf (sendB_len I.small) (fun m h => (mem_sendB h).elim (I.net m) (hm m))
def WW.put (W : WW) (k : Int) (L : List R3) : WW := { W with hs := W.hs.set k.toNat L }
theorem at_put {W : WW} {k : Int} (h0 : 0 ≤ k) (hk : k < W.hs.length) (L : List R3) (j : Int) (hj : 0 ≤ j) : (W.put k L).at j = if j = k then L else W.at j := by
 unfold WW.put WW.at
 simp only [List.getD_eq_getElem?_getD]
 by_cases e : j = k
 ·subst e
  rw [if_pos rfl, List.getElem?_set_self (by omega)];rfl
 ·rw [if_neg e, List.getElem?_set_ne (by omega)]
theorem zk7 (W : WW) (k : Int) (hk : k.toNat < W.hs.length) : W.put k (W.at k) = W := by
 unfold WW.put WW.at
 have e : W.hs.set k.toNat (W.hs.getD k.toNat []) = W.hs := by
  rw [List.getD_eq_getElem?_getD, List.getElem?_eq_getElem hk];simp
 rw [e]
theorem Inv.put {n : Nat} {P : Int → List P3} {W : WW} (I : Inv n P W) {k : Int} (h0 : 0 ≤ k) (hk : k < n) {L : List R3} (M : zdu P P W (W.put k L)) (H : HouOK P (W.put k L) k) : Inv n P (W.put k L) := by
 have hlen : (W.put k L).hs.length = n := by show (W.hs.set _ _).length = n; rw [List.length_set]; exact I.len
 have hkl : k < (W.hs.length : Int) := by rw [I.len]; exact hk
 refine ⟨I.n3, hlen, I.boot1, I.boot20, I.next0, I.next64, I.bootL, I.small, I.few, I.apart, ?_, I.dec, I.decNd, ?_, ?_, I.hl, I.hlNd, I.hlIn, fun m hm => (I.net m hm).mono M, ?_⟩
 ·intro o ho
  have O := I.opn o ho;exact ⟨O.pos, O.old, O.parts, O.right, O.nd, O.sub, O.less, O.dec, fun hd j hj => M.rdyU _ _ O.old ⟨o, ho, rfl, hd⟩ (O.rdy hd j hj), fun hd j hj => M.dn _ _ (O.dn hd j hj)⟩
 ·intro x hx j hj
  rcases I.dr x hx j hj with h | h
  ·exact M.rdyD _ _ ⟨x, hx, rfl⟩ h
  ·exact kab (M.dn _ _ h)
 ·intro x hx hn j hj
  exact M.dn _ _ (I.en x hx hn j hj)
 ·intro j hj0 hjn
  by_cases e : j = k
  ·subst e; exact H
  ·have zY := I.hou j hj0 hjn
   have ea : (W.put k L).at j = W.at j := by rw [at_put h0 hkl L j hj0, if_neg e]
   exact ⟨by rw [ea]; exact zY.good, by rw [ea]; exact zY.old, by rw [ea]; exact zY.parts, by rw [ea]; exact zY.nd, by rw [ea]; exact zY.done, by rw [ea]; exact zY.apart, by rw [ea]; exact zY.sums⟩
theorem zjr {l : List P3} {k : Int} : k ∈ zr l ↔ (k = 0 ∨ k = 1 ∨ k = 2) ∧ 0 < (ofB l k).length := by
 unfold zr
 rw [kah];simp
theorem zgy {W : WW} {k : Int} (hk : k.toNat < W.hs.length) (L : List R3) (j : Int) : (W.put k L).at j = if j.toNat = k.toNat then L else W.at j := by
 unfold WW.put WW.at
 simp only [List.getD_eq_getElem?_getD]
 by_cases e : j.toNat = k.toNat
 ·rw [if_pos e, e, List.getElem?_set_self hk]
  rfl
 ·rw [if_neg e, List.getElem?_set_ne (fun h => e h.symm)]
theorem at_eq {W : WW} {j k : Int} (h : j.toNat = k.toNat) : W.at j = W.at k := by unfold WW.at; rw [h]
theorem zjc {P : Int → List P3} {W : WW} {k : Int} {L : List R3} (hk : k.toNat < W.hs.length) (hd : ∀ e, inI (zd (W.at k)).2.2 e = true → inI (zd L).2.2 e = true)
  (hu : ∀ e, undW W e → zab (zd (W.at k)).2.1 e = true → zab (zd L).2.1 e = true) (hc : ∀ e, zbc W e → zab (zd (W.at k)).2.1 e = true → zab (zd L).2.1 e = true ∨ inI (zd L).2.2 e = true) : zdu P P W (W.put k L) := by
 refine ⟨Int.le_refl _, fun _ _ => rfl, fun _ h => h, fun _ _ h _ => h, ?_, fun _ _ h => h, fun _ _ h => h, ?_, ?_⟩
 ·intro j e h
  unfold dnW at h ⊢
  rw [zgy hk];split
  ·rename_i hj; rw [at_eq hj] at h; exact hd e h
  ·exact h
 ·intro j e _ hx h
  unfold zdy at h ⊢
  rw [zgy hk];split
  ·rename_i hj; rw [at_eq hj] at h; exact hu e hx h
  ·exact h
 ·intro j e hx h
  unfold zdy at h ⊢
  unfold dnW
  rw [zgy hk];split
  ·rename_i hj; rw [at_eq hj] at h; exact hc e hx h
  ·exact kad h
theorem zc6 {l : List Int} {d : Int} : inI l d = true ↔ d ∈ l := by
 unfold inI
 rw [List.any_eq_true];constructor
 ·rintro ⟨x, hx, e⟩; rw [← of_decide_eq_true e]; exact hx
 ·intro h; exact ⟨d, h, by simp⟩
theorem hasD_mem {D : List D2} {d : Int} : zab D d = true ↔ ∃ x ∈ D, x.1 = d := by
 unfold zab
 rw [List.any_eq_true];simp only [decide_eq_true_eq]
theorem firstP_in {D : List D2} {d : Int} (h : zab D d = true) : (d, zcg D d) ∈ D := by
 obtain ⟨x, hx, e, hp⟩ := ziw h;rw [hp, ← e];exact hx
theorem Inv.hear {n : Nat} {P : Int → List P3} {W : WW} (I : Inv n P W) {m : Q4} (hm : zbo n P W m) (hkd : m.1 = 1 ∨ m.1 = 4 ∨ m.1 = 5) :
  Inv n P (W.put m.2.2.1 (zp (W.at m.2.2.1) m.1 m.2.1 m.2.2.2)) ∧ ∀ q ∈ zau (W.at m.2.2.1) m.2.2.1 m.1 m.2.1 m.2.2.2, zbo n P (W.put m.2.2.1 (zp (W.at m.2.2.1) m.1 m.2.1 m.2.2.2)) q := by
 obtain ⟨kd, d, k, l⟩ := m;simp only at hkd ⊢
 have hr := hm.right;have hold := hm.old;have hhere := hm.here;have hprep := hm.prep;have hcom := hm.com;have habo := hm.abo;simp only at hr hold hhere hprep hcom habo
 obtain ⟨hd0, hd1, hk1, hk7, hl0, hl1⟩ := zih hr
 have hk0 : 0 ≤ k := by
  unfold za9 at hr
  split at hr
  ·cases hr
  ·split at hr
   ·cases hr
   ·omega
 have hk2 : k ≤ 2 := by have := I.n3; omega
 have hkl : k.toNat < W.hs.length := by rw [I.len]; omega
 have zY := I.hou k hk0 hhere;have hgood := zY.good.hear hr;have hself : ∀ L, (W.put k L).at k = L := fun L => by rw [zgy hkl, if_pos rfl]
 rcases zjn (zd (W.at k)) kd d l with h | ⟨rfl, hv, hn, h⟩ | ⟨rfl, hn, h⟩ | ⟨rfl, hn, h⟩
 ·
  rw [ze7 h, zk7 W k hkl];refine ⟨I, fun q hq => ?_⟩;unfold zau at hq
  obtain ⟨s, hs, rfl⟩ := kae.1 hq;unfold zdg at hs
  split at hs
  ·rename_i hk
   subst hk;split at hs
   ·cases hs
   ·split at hs
    ·rename_i hv
     simp at hs
     subst hs
     have hrd : zab (zd (W.at k)).2.1 d = true := by
      cases hc : zab (zd (W.at k)).2.1 d
      ·unfold za0 at h
       rw [if_pos rfl, if_pos ⟨hv, hc⟩] at h;cases h
      ·rfl
     exact ⟨by unfold za9; simp; omega, hhere, hold, fun h => absurd h (by simp), fun _ _ => hrd, fun h => absurd h (by simp), fun h => absurd h (by simp), fun h => absurd h (by simp), fun h => absurd h (by simp)⟩
    ·simp at hs
     subst hs;exact ⟨by unfold za9; simp; omega, hhere, hold, fun h => absurd h (by simp), fun h => absurd h (by simp), fun h => absurd h (by simp), fun h => absurd h (by simp), fun h => absurd h (by simp), fun h => absurd h (by simp)⟩
  ·split at hs
   ·rename_i hk
    subst hk;rw [ze7 h] at hs;split at hs
    ·rename_i hi
     simp at hs
     subst hs;exact ⟨by unfold za9; simp; omega, hhere, hold, fun h => absurd h (by simp), fun h => absurd h (by simp), fun h => absurd h (by simp), fun h => absurd h (by simp), fun _ => hi, fun h => absurd h (by simp)⟩
    ·cases hs
   ·cases hs
 ·
  have hM : zau (W.at k) k 1 d l = [(2, d, k, [])] := by
   unfold zau zdg
   rw [if_pos rfl, hv, if_neg (by decide), if_pos rfl];rfl
  rw [hM];have hL := zd7 h;rw [hL] at hgood ⊢
  have hB : zd (W.at k ++ [(1, d, l)]) = ((zd (W.at k)).1, (zd (W.at k)).2.1 ++ [(d, l)], (zd (W.at k)).2.2) := by rw [zer, hstep1 hn]
  have hnd := (zjk hv).1
  have M : zdu P P W (W.put k (W.at k ++ [(1, d, l)])) := by
   refine zjc hkl ?_ ?_ ?_
   ·intro e he; rw [hB]; exact he
   ·intro e _ he; rw [hB]; show zab (_ ++ [(d, l)]) e = true; rw [zg6, he]; rfl
   ·intro e _ he; left; rw [hB]; show zab (_ ++ [(d, l)]) e = true; rw [zg6, he]; rfl
  have H : HouOK P (W.put k (W.at k ++ [(1, d, l)])) k := by
   refine ⟨by rw [hself]; exact hgood, ?_, ?_, ?_, ?_, ?_, ?_⟩
   ·rw [hself, hB]
    intro x hx;rcases kaa.1 hx with hx | hx
    ·exact zY.old x hx
    ·rw [kac.1 hx]; exact hold
   ·rw [hself, hB]
    intro x hx;rcases kaa.1 hx with hx | hx
    ·exact zY.parts x hx
    ·rw [kac.1 hx]; exact hprep rfl
   ·rw [hself, hB]; exact zY.nd
   ·rw [hself, hB]; exact zY.done
   ·rw [hself, hB]
    intro e he;show zab (_ ++ [(d, l)]) e = false
    rw [zg6, zY.apart e he, Bool.false_or];refine decide_eq_false (fun e' => ?_);subst e';rw [zc6.2 he] at hnd;cases hnd
   ·rw [hself, hB]; exact zY.sums
  refine ⟨I.put hk0 hhere M H, fun q hq => ?_⟩;rw [kac.1 hq];exact ⟨by unfold za9; simp; omega, hhere, hold, fun h => absurd h (by simp), fun _ _ => by unfold zdy; rw [hself, hB]; show zab (_ ++ [(d, l)]) d = true; rw [zg6]; simp, fun h => absurd h (by simp), fun h => absurd h (by simp), fun h => absurd h (by simp), fun h => absurd h (by simp)⟩
 ·
  have hL := zd7 h;have hB : zd (W.at k ++ [(2, d, [])]) = (doB (zd (W.at k)).1 (zcg (zd (W.at k)).2.1 d), zal (zd (W.at k)).2.1 d, (zd (W.at k)).2.2 ++ [d]) := by rw [zer, hstep2 hn]
  have hin : inI (zd (W.at k ++ [(2, d, [])])).2.2 d = true := by rw [hB]; show inI (_ ++ [d]) d = true; rw [zhm]; simp
  have hM : zau (W.at k) k 4 d l = [(6, d, k, [])] := by
   unfold zau zdg
   rw [if_neg (by decide), if_pos rfl, hL, if_pos hin];rfl
  rw [hM];rw [hL] at hgood ⊢
  obtain ⟨hc1, hc2⟩ := hcom rfl;have hfp := zY.parts _ (firstP_in hn);simp only at hfp
  have M : zdu P P W (W.put k (W.at k ++ [(2, d, [])])) := by
   refine zjc hkl ?_ ?_ ?_
   ·intro e he; rw [hB]; show inI (_ ++ [d]) e = true; rw [zhm, he]; rfl
   ·intro e hu he
    rw [hB];show zab (zal _ d) e = true
    rw [zgr _ (fun e' => by subst e'; exact und_not I hu hc1)];exact he
   ·intro e _ he
    rw [hB];by_cases e' : d = e
    ·right; show inI (_ ++ [d]) e = true; rw [zhm]; simp [e']
    ·left; show zab (zal _ d) e = true; rw [zgr _ e']; exact he
  have hnot : d ∉ (zd (W.at k)).2.2 := fun hd => by
   have := zY.apart d hd;rw [hn] at this;cases this
  have H : HouOK P (W.put k (W.at k ++ [(2, d, [])])) k := by
   refine ⟨by rw [hself]; exact hgood, ?_, ?_, ?_, ?_, ?_, ?_⟩
   ·rw [hself, hB]; intro x hx; exact zY.old x (zcz hx).1
   ·rw [hself, hB]; intro x hx; exact zY.parts x (zcz hx).1
   ·rw [hself, hB]
    show ((zd (W.at k)).2.2 ++ [d]).Nodup
    rw [kai];refine ⟨zY.nd, by simp, ?_⟩;intro a ha b hb e;rw [kac.1 hb] at e;exact hnot (e ▸ ha)
   ·rw [hself, hB]
    intro e he;rcases kaa.1 he with he | he
    ·exact zY.done e he
    ·rw [kac.1 he]; exact ⟨hc1, hc2⟩
   ·rw [hself, hB]
    intro e he;show zab (zal _ d) e = false
    rcases kaa.1 he with he | he
    ·have hne : d ≠ e := fun e' => hnot (e' ▸ he)
     rw [zgr _ hne]; exact zY.apart e he
    ·rw [kac.1 he]; exact zmj _ _
   ·rw [hself, hB]
    show doB (zd (W.at k)).1 (zcg (zd (W.at k)).2.1 d) = ((zd (W.at k)).2.2 ++ [d]).foldl _ _
    rw [List.foldl_append, ← zY.sums, hfp.1];rfl
  refine ⟨I.put hk0 hhere M H, fun q hq => ?_⟩;rw [kac.1 hq];exact ⟨by unfold za9; simp; omega, hhere, hold, fun h => absurd h (by simp), fun h => absurd h (by simp), fun h => absurd h (by simp), fun h => absurd h (by simp), fun _ => by unfold dnW; rw [hself]; exact hin, fun h => absurd h (by simp)⟩
 ·
  have hL := zd7 h;have hB : zd (W.at k ++ [(3, d, [])]) = ((zd (W.at k)).1, zal (zd (W.at k)).2.1 d, (zd (W.at k)).2.2) := by rw [zer, hstep3]
  have hM : zau (W.at k) k 5 d l = [] := by
   unfold zau zdg
   rw [if_neg (by decide), if_neg (by decide)];rfl
  rw [hM];rw [hL] at hgood ⊢
  obtain ⟨ha1, ha2⟩ := habo rfl
  have hnd : ¬ zbc W d := fun hc => by
   have h1 := ha2 hc;have := zY.apart d (zc6.1 h1);rw [hn] at this;cases this
  have M : zdu P P W (W.put k (W.at k ++ [(3, d, [])])) := by
   refine zjc hkl ?_ ?_ ?_
   ·intro e he; rw [hB]; exact he
   ·intro e hu he
    rw [hB];show zab (zal _ d) e = true
    rw [zgr _ (fun e' => by subst e'; obtain ⟨o, ho, e1, _⟩ := hu; exact ha1 ⟨o, ho, e1⟩)];exact he
   ·intro e hc he
    rw [hB];left
    show zab (zal _ d) e = true
    rw [zgr _ (fun e' => by subst e'; exact hnd hc)];exact he
  have H : HouOK P (W.put k (W.at k ++ [(3, d, [])])) k := by
   refine ⟨by rw [hself]; exact hgood, ?_, ?_, ?_, ?_, ?_, ?_⟩
   ·rw [hself, hB]; intro x hx; exact zY.old x (zcz hx).1
   ·rw [hself, hB]; intro x hx; exact zY.parts x (zcz hx).1
   ·rw [hself, hB]; exact zY.nd
   ·rw [hself, hB]; exact zY.done
   ·rw [hself, hB]
    intro e he;show zab (zal _ d) e = false
    by_cases e' : d = e
    ·subst e'; exact zmj _ _
    ·rw [zgr _ e']; exact zY.apart e he
   ·rw [hself, hB]; exact zY.sums
  exact ⟨I.put hk0 hhere M H, fun q hq => by cases hq⟩
theorem zkx {H : Int} : ∀ {l seen : List P3}, (∀ p ∈ l, inB p H = true) → (∀ p ∈ l, hasB p seen = false) → l.Pairwise (fun p q => zex p q = false) → zds H seen l = 0
 | [], _, _, _, _ => rfl
 | p :: t, seen, h1, h2, h3 => by
  rw [List.pairwise_cons] at h3;unfold zds
  rw [if_pos (h1 p (by simp)), if_neg (by rw [h2 p (by simp)]; simp)];refine zkx (fun q hq => h1 q (by simp [hq])) (fun q hq => ?_) h3.2;rw [zmi, h2 q (by simp [hq]), h3.1 q hq];rfl
theorem zi3 {l : List P3} {H : Int} (h1 : 1 ≤ l.length) (h4 : l.length ≤ 4) (hin : ∀ p ∈ l, inB p H = true) (hpw : l.Pairwise (fun p q => zex p q = false)) : zax l H = 0 := by
 unfold zax
 rw [if_neg (by omega)];exact zkx hin (fun p _ => rfl) hpw
theorem zjo {p : P3} {H H' : Int} (h : inB p H = true) (hH : H ≤ H') : inB p H' = true := by
 simp only [inB, decide_eq_true_eq] at h ⊢
 omega
theorem zl7 {l : List P3} {n : Nat} (hn : n ≤ 3) (h : zax l n = 0) {k : Int} (hk : k ∈ zr l) : zax (ofB l k) 3 = 0 ∧ (∀ p ∈ ofB l k, p.1 = k) ∧ 0 ≤ k ∧ k < n := by
 obtain ⟨h1, h4, hin, hpw⟩ := zc5 h;obtain ⟨_, hpos⟩ := zjr.1 hk;have hsub : (ofB l k).Sublist l := List.filter_sublist
 have hall : ∀ p ∈ ofB l k, p.1 = k := fun p hp => by
  have := (kah.1 hp).2
  simpa using this
 refine ⟨zi3 (by omega) (Nat.le_trans hsub.length_le h4) (fun p hp => zjo (hin p (hsub.subset hp)) (by omega)) (hpw.sublist hsub), hall, ?_⟩;obtain ⟨p, hp⟩ := List.exists_mem_of_length_pos hpos;have h5 := hin p (hsub.subset hp);have h6 := hall p hp;simp only [inB, decide_eq_true_eq] at h5
 omega
theorem zju {l : List P3} {n : Nat} (hn : n ≤ 3) (h : zax l n = 0) : 0 < (zr l).length := by
 obtain ⟨h1, h4, hin, _⟩ := zc5 h;obtain ⟨p, hp⟩ := List.exists_mem_of_length_pos (show 0 < l.length by omega);have h5 := hin p hp;simp only [inB, decide_eq_true_eq] at h5
 have : p.1 ∈ zr l := zjr.2 ⟨by omega, List.length_pos_iff_exists_mem.2 ⟨p, kah.2 ⟨hp, by simp⟩⟩⟩;exact List.length_pos_iff_exists_mem.2 ⟨_, this⟩
theorem zik (l : List P3) : (zr l).Nodup := List.Nodup.sublist List.filter_sublist (by decide)
theorem cover : ∀ {A B : List Int}, A.Nodup → (∀ x ∈ A, x ∈ B) → B.length ≤ A.length → B.Nodup → ∀ x ∈ B, x ∈ A
 | [], B, _, _, hl, _, x, hx => by
  have : B = [] := List.eq_nil_of_length_eq_zero (by simpa using hl);rw [this] at hx; cases hx
 | a :: t, B, hA, hs, hl, hB, x, hx => by
  rw [List.nodup_cons] at hA;by_cases e : x = a
  ·rw [e]; simp
  ·have ha := hs a (by simp)
   have hx' := (List.mem_erase_of_ne e).2 hx;have := cover (A := t) (B := B.erase a) hA.2 (fun y hy => (List.mem_erase_of_ne (fun (e' : y = a) => hA.1 (e' ▸ hy))).2 (hs y (by simp [hy]))) (by rw [List.length_erase_of_mem ha]; simp at hl; omega) (hB.erase a) x hx';simp [this]
theorem zg1 : ∀ {A B : List Int}, A.Nodup → (∀ x ∈ A, x ∈ B) → A.length ≤ B.length
 | [], _, _, _ => Nat.zero_le _
 | a :: t, B, hA, hs => by
  rw [List.nodup_cons] at hA;have ha := hs a (by simp);have := zg1 (A := t) (B := B.erase a) hA.2 (fun y hy => (List.mem_erase_of_ne (fun (e' : y = a) => hA.1 (e' ▸ hy))).2 (hs y (by simp [hy])));rw [List.length_erase_of_mem ha] at this;have hp := List.length_pos_iff_exists_mem.2 ⟨a, ha⟩;simp; omega
theorem zjq {n : Nat} {P : Int → List P3} {W : WW} (hn : n ≤ 3) (hnum : za1 W ≤ 1344) {o : O4} (O : zgp n P W o) : ∀ q ∈ za4 o, zbo n P W q := by
 intro q hq;unfold za4 at hq
 obtain ⟨k, hk, rfl⟩ := kae.1 hq;have hkh := (kah.1 hk).1;obtain ⟨hw, hall, hk0, hkn⟩ := zl7 hn O.right hkh;have h0 := O.pos;have h1 := O.old;have hd : o.1 ≤ 1343 := by omega
 split
 ·rename_i hdec
  exact ⟨by unfold za9; simp; omega, hkn, h1, fun h => absurd h (by simp), fun h => absurd h (by simp), fun _ => ⟨O.dec.1 hdec, by show k ∈ zr (P o.1); rw [← O.parts]; exact hkh⟩, fun h => absurd h (by simp), fun h => absurd h (by simp), fun h => absurd h (by simp)⟩
 ·refine ⟨?_, hkn, h1, fun _ => ⟨by show ofB o.2.1 k = ofB (P o.1) k; rw [← O.parts], by show k ∈ zr (P o.1); rw [← O.parts]; exact hkh⟩, fun h => absurd h (by simp), fun h => absurd h (by simp), fun h => absurd h (by simp), fun h => absurd h (by simp), fun h => absurd h (by simp)⟩
  show za9 1 o.1 k (ofB o.2.1 k) = 0
  unfold za9
  rw [if_neg (by omega), if_neg (by omega), if_neg (by omega), if_pos hw, if_neg];simp only [List.any_eq_true, Bool.not_eq_true', decide_eq_false_iff_not, not_exists, not_and, Decidable.not_not]
  exact hall
theorem zkq {n : Nat} {P : Int → List P3} {W : WW} (hn : n ≤ 3) (hnum : za1 W ≤ 1344) {o : O4} (h0 : 0 ≤ o.1) (h1 : o.1 < za1 W) (hr : zax o.2.1 n = 0) (ho : ¬ zdm W o.1) (hd : ¬ zbc W o.1) : ∀ q ∈ za3 o, zbo n P W q := by
 intro q hq;unfold za3 at hq
 obtain ⟨k, hk, rfl⟩ := kae.1 hq;obtain ⟨hw, hall, hk0, hkn⟩ := zl7 hn hr hk;exact ⟨by unfold za9; simp; omega, hkn, h1, fun h => absurd h (by simp), fun h => absurd h (by simp), fun h => absurd h (by simp), fun _ => ⟨ho, fun h => absurd h hd⟩, fun h => absurd h (by simp), fun h => absurd h (by simp)⟩
theorem Inv.ofHead {n : Nat} {P P' : Int → List P3} {W : WW} (I : Inv n P W) {g : Gh} (M : zdu P P' W { W with hd := g })
  (boot1 : 1 ≤ g.boot) (boot20 : g.boot ≤ 20) (next0 : 0 ≤ g.next) (next64 : g.next ≤ 64) (bootL : g.boot = (zaa g.log).1) (few : g.opn.length ≤ 12) (apart : (g.opn.map (·.1)).Nodup)
  (opn : ∀ o ∈ g.opn, zgp n P' { W with hd := g } o) (dec : ∀ x ∈ zan g.log, 0 ≤ x.1 ∧ x.1 < za1 { W with hd := g } ∧ x.2 = P' x.1 ∧ zax x.2 n = 0) (decNd : ((zan g.log).map (·.1)).Nodup)
  (dr : ∀ x ∈ zan g.log, ∀ k ∈ zr x.2, zdy W k x.1 ∨ dnW W k x.1) (en : ∀ x ∈ zan g.log, ¬ zdm { W with hd := g } x.1 → ∀ k ∈ zr x.2, dnW W k x.1)
  (hl : ∀ d, (∃ x ∈ (zaa g.log).2, x.1 = d) ↔ ∃ o ∈ g.opn, o.1 = d ∧ o.2.2.1 = true) (hlNd : ((zaa g.log).2.map (·.1)).Nodup) (hlIn : ∀ x ∈ (zaa g.log).2, x ∈ zan g.log) : Inv n P' { W with hd := g } := by
 refine ⟨I.n3, I.len, boot1, boot20, next0, next64, bootL, I.small, few, apart, opn, dec, decNd, dr, en, hl, hlNd, hlIn, fun m hm => (I.net m hm).mono M, fun k h0 hk => ?_⟩;have zY := I.hou k h0 hk
 have hold : ∀ d ∈ (zd (W.at k)).2.2, P' d = P d := fun d hd => by
  obtain ⟨x, hx, e⟩ := (zY.done d hd).1;have := (I.dec x hx).2.1;exact M.same d (by rw [← e]; exact this)
 refine ⟨zY.good, fun x hx => Int.lt_of_lt_of_le (zY.old x hx) M.num, fun x hx => ?_, zY.nd, fun d hd => ?_, zY.apart, ?_⟩
 ·rw [M.same _ (zY.old x hx)]; exact zY.parts x hx
 ·rw [hold d hd]; exact ⟨M.dcd _ (zY.done d hd).1, (zY.done d hd).2⟩
 ·show (zd (W.at k)).1 = _
  rw [zY.sums]
  have key : ∀ (l : List Int) (s : S4), (∀ d ∈ l, P' d = P d) → l.foldl (fun s d => doB s (ofB (P d) k)) s = l.foldl (fun s d => doB s (ofB (P' d) k)) s := by
   intro l
   induction l with
   | nil => intro s _; rfl
   | cons a t ih =>
    intro s h;rw [List.foldl_cons, List.foldl_cons, h a (by simp)];exact ih _ (fun d hd => h d (by simp [hd]))
  exact key _ _ hold
def zcj (l : List P3) : Prop := zax l 3 = 0
theorem zcj.houses {l : List P3} (h : zcj l) : zhn l = zr l := by
 obtain ⟨h1, h4, hin, _⟩ := zc5 h;rw [zoo h1 h4 hin, zf4]
theorem zn4 (b : Nat) (dd : Int) (pa : Option Addr) (ln pc : Nat) (dec : Bool) (ha : Option Addr) (hn hc : Nat) (hd : List Int) (x : Int) (w : World) (hb : Blk w b #[E J dd, G pa ln pc, .bool dec, G ha hn hc] 58) (hnn : hn = hd.length) (hl : hd.length ≤ 100000) (hr : zi 1 zu w ha hd) :
  Calls Tryz.prog 111 #[E J x, .pointer (some ⟨b, 0, U⟩)] w fun e w' => e = .returned (.bool (inI hd x)) ∧ Z w.heap.size w w' := by
 have HC := zmz ha hd hc hn x w hnn (by omega) hr;have b3 := hb.cell 3;simp only [kaj, kak, List.getElem?_cons_succ] at b3
 have lb := hb.lt;clear hb hnn hl hr;generalize inI hd x = jj at *;go_enter Tryz.func111, Tryz.ntmps111
 go_wp2_with fail
 refine HC.mono ?_;rintro e w1 ⟨rfl, hb1⟩;clear b3 HC lb;go_wp2;go_ret;exact ⟨rfl, hb1⟩
theorem entersW : zfb 111 := fun _ _ => rfl
theorem zit (dd : Int) (pa : Option Addr) (ln pc : Nat) (l : List P3) (dec : Bool) (ha : Option Addr) (hn hc : Nat) (hd : List Int) (w : World) (hln : ln = l.length) (hr : zcj l) (hp : zae w pa l) (hnn : hn = hd.length) (hl : hd.length ≤ 100000) (hi : zi 1 zu w ha hd) :
  Calls Tryz.prog 80 #[.agg #[E J dd, G pa ln pc, .bool dec, G ha hn hc]] w fun e w' => ∃ v', e = .returned v' ∧ za 3 1 zu w' w.heap.size v' ((zr l).filter fun n => !inI hd n) ∧ Z w.heap.size w w' := by
 have hb0 := zh w (T #[E J dd, G pa ln pc, .bool dec, G ha hn hc] 58);have hbx : Blk (w.alloc (T #[E J dd, G pa ln pc, .bool dec, G ha hn hc] 58)) w.heap.size #[E J dd, G pa ln pc, .bool dec, G ha hn hc] 58 := Blk.new _ _ _;have hout : Out (fun q => w.heap.size ≤ q) ha hd.length := (zi.out (R := fun _ => False) hi (kab (fun _ _ h => h)) (fun b hb => kab hb)).elim kad kab;have HQ := zG hln hr hp hnn hl hi hout;have hsA : w.heap.size < (w.alloc (T #[E J dd, G pa ln pc, .bool dec, G ha hn hc] 58)).heap.size := by simp
 clear hln hr hp hnn hl hi hout;go_enter Tryz.func80, Tryz.ntmps80
 go_upto_region 1 with fail
 generalize w.alloc (T #[E J dd, G pa ln pc, .bool dec, G ha hn hc] 58) = A at *;have HA := zC hb0 hbx hsA;have b1 := hbx.cell 1;simp only [kaj, kak, List.getElem?_cons_succ] at b1
 have lb := hbx.lt;clear hb0 hbx hsA;go_wp2_with fail
 obtain ⟨h1, h4, -, -⟩ := zc5 HQ.out.2.1;refine (znf pa l pc ln A HQ.out.1 h4 h1 (HQ.out.2.2.1.below HA.out.1)).mono ?_;rintro e w1 ⟨v1, rfl, ho1, hb1⟩;rw [HQ.out.2.1.houses] at ho1;obtain ⟨ga, gn, gc, rfl⟩ := ho1.own.slice zaf;have H1 := zB ho1.own hb1;clear ho1 hb1 b1 h1 h4;go_wp2_with fail
 refine (znw 111 w.heap.size entersW (fun x => inI hd x) ga (zr l) gc gn A.heap.size w1 (by have := zdl l; omega) H1.out.1 (fun x _ w' hg => ?_)).mono ?_
 ·have hbx := (HA.out.2.1.below H1.out.2 HA.out.2.1.lt).keptNe hg (fun e => by have h1 := H1.out.1.base _ e; have h2 := HA.out.2.2; omega)
  have hk : zf (fun q => w.heap.size ≤ q) w1 w' := zf.ofGrown hg (fun k hk => by have h1 := H1.out.1.base _ hk; have h2 := HA.out.2.2; omega);exact zn4 w.heap.size dd pa ln pc dec ha hn hc hd x w' hbx HQ.out.2.2.2.1 HQ.out.2.2.2.2.1 ((((HQ.out.2.2.2.2.2.1.below HA.out.1).below H1.out.2)).keepR HQ.out.2.2.2.2.2.2 hk)
 ·rintro e w2 ⟨n2, rfl, ho2, hg2⟩
  have HF := zB (ho2.mono HA.out.1.size) ((HA.out.1.trans (H1.out.2.mono HA.out.1.size)).grown hg2 (by have h1 := HA.out.1.size; have h2 := H1.out.2.size; omega) (fun k hk => by have h1 := H1.out.1.base _ hk; have h2 := HA.out.2.2; omega));clear ho2 hg2;go_wp2;go_ret;exact ⟨_, rfl, HF.out.1, HF.out.2⟩
def wtO (l : List P3) (hd : List Int) : List Int := (zr l).filter fun n => !inI hd n
theorem zj9 (g q : Nat) (dd : Int) (pa : Option Addr) (ln pc : Nat) (l : List P3) (dec : Bool) (ha : Option Addr) (hn hc : Nat) (hd : List Int) (house : Int) (base : Nat) (w : World) (hg : g < w.heap.size) (c0 : w.cell? ⟨g, q, U⟩ = some (E J dd)) (c1 : w.cell? ⟨g, q + 1, U⟩ = some (G pa ln pc)) (c2 : w.cell? ⟨g, q + 2, U⟩ = some (.bool dec)) (c3 : w.cell? ⟨g, q + 3, U⟩ = some (G ha hn hc)) (f3 : w.frozen? ⟨g, q + 3, U⟩ = false)
  (hln : ln = l.length) (hr : zcj l) (hp : zai base w pa l) (hO : za 3 1 zu w base (G ha hn hc) hd) (hbase : base ≤ w.heap.size) (hne : kag (G ha hn hc) ≠ some g) (hl : hd.length ≤ 1000) (gcs : Array Value) (hgb : Blk w g gcs 58) :
  Calls Tryz.prog 60 #[.pointer (some ⟨g, q, U⟩), E J house] w fun e w' =>
   (inI (wtO l hd) house = false ∧ e = .returned (.bool false) ∧ Z w.heap.size w w') ∨
   (inI (wtO l hd) house = true ∧ ∃ (w1 w2 : World) (a' : Option Addr) (n' c' : Nat), e = .returned (.bool (decide ((wtO l (hd ++ [house])).length = 0))) ∧ Z w.heap.size w w1 ∧ w1.grownBy w2 (kag (G ha hn hc)) ∧ za 3 1 zu w2 base (G a' n' c') (hd ++ [house]) ∧ Z (r w2 ⟨g, q + 3, U⟩ (G a' n' c')).heap.size (r w2 ⟨g, q + 3, U⟩ (G a' n' c')) w') := by
 have hat := hO.at zaf;have HQ : Q (ln = l.length ∧ zcj l ∧ zai base w pa l ∧ za 3 1 zu w base (G ha hn hc) hd ∧ hd.length ≤ 1000 ∧ hn = hd.length ∧ zi 1 zu w ha hd ∧ kag (G ha hn hc) ≠ some g ∧ Blk w g gcs 58) := ⟨hln, hr, hp, hO, hl, hat.2.1, hat.1, hne, hgb⟩;have HC := zG hg c0 c1 c2 c3 f3 hbase;clear hln hr hp hO hl hat hne f3 hbase hgb;go_enter Tryz.func60, Tryz.ntmps60
 go_wp2_with fail
 refine (zit dd pa ln pc l dec ha hn hc hd w HQ.out.1 HQ.out.2.1 HQ.out.2.2.1.at HQ.out.2.2.2.2.2.1 (by have := HQ.out.2.2.2.2.1; omega) HQ.out.2.2.2.2.2.2.1).mono ?_;rintro e w1 ⟨v1, rfl, ho1, hb1⟩;obtain ⟨ga, gn, gc, rfl⟩ := ho1.slice zaf;have H1 : Q (zi 1 zu w1 ga (wtO l hd) ∧ gn = (wtO l hd).length) := ⟨(ho1.at zaf).1, (ho1.at zaf).2.1⟩;clear c0 c1 c2 c3 hg;go_wp2_with fail
 refine (zmz ga (wtO l hd) gc gn house w1 H1.out.2 (by have h1 := zdl l; have h2 : (wtO l hd).length ≤ (zr l).length := List.length_filter_le _ _; omega) H1.out.1).mono ?_;rintro e w2 ⟨rfl, hb2⟩;have H2 := zA (hb1.trans (hb2.mono hb1.size));clear ho1 hb1 hb2 H1;obtain ⟨jj, hrr⟩ : ∃ jj, Q (inI (wtO l hd) house = jj) := ⟨_, rfl⟩;rw [hrr.out]
 cases jj with
 | false =>
  go_wp2;go_ret;exact kad ⟨hrr.out, rfl, H2.out⟩
 | true =>
  obtain ⟨bc, bf⟩ := zc0 H2.out;have d3 := (bc g (q + 3) HC.out.1).trans HC.out.2.2.2.2.1;have hgl := Nat.lt_of_lt_of_le HC.out.1 H2.out.size;have hhl := HQ.out.2.2.2.2.1;have hbs := Nat.le_trans HC.out.2.2.2.2.2.2 H2.out.size;have hA : Z w.heap.size w (w2.alloc (T #[E J house] 3)) := H2.out.alloc H2.out.size _;have hoA := HQ.out.2.2.2.1.below hA (Nat.le_refl _);obtain ⟨ac, af⟩ := zc0 hA;have e0 := (ac g q HC.out.1).trans HC.out.2.1;have e1 := (ac g (q + 1) HC.out.1).trans HC.out.2.2.1;have e2 := (ac g (q + 2) HC.out.1).trans HC.out.2.2.2.1;have e3 := (ac g (q + 3) HC.out.1).trans HC.out.2.2.2.2.1;have ef := (af g (q + 3) HC.out.1).trans HC.out.2.2.2.2.2.1;have HE := zE e0 e1 e2 e3 ef;clear bc bf ac af e0 e1 e2 e3 ef;go_upto_region 3 with fail
  go_upto_region 4 with (at_builtin; refine zbi zaf zcw Tryz.underlying56 zcn rfl (by decide) _ rfl _ _ rfl base _ hd rfl hoA (some ⟨w2.heap.size, 0, U⟩) 1 1 [house] rfl rfl (zi.one (Blk.new w2 _ _) rfl) (by unfold maxLen; simp; omega) (by simp; omega) (by simp; omega) ?_; intro a4 n4 c4 w4 jy hn4 jq jw; have hgA : g < (w2.alloc (T #[E J house] 3)).heap.size := (by simp; omega); have hg4 : g < w4.heap.size := Nat.lt_of_lt_of_le hgA jq.size; have hfar : some g ≠ kag (G ha hn hc) := (fun h => HQ.out.2.2.2.2.2.2.2.1 h.symm); have m3 := (jq.cell_far ⟨g, q + 3, U⟩ hgA hfar).trans HE.out.2.2.2.1; have mf := (jq.frozen_far ⟨g, q + 3, U⟩ hgA hfar).trans HE.out.2.2.2.2; have HM : Q (w4.cell? ⟨g, q, U⟩ = some (E J dd) ∧ w4.cell? ⟨g, q + 1, U⟩ = some (G pa ln pc) ∧ w4.cell? ⟨g, q + 2, U⟩ = some (.bool dec) ∧ za 3 1 zu w4 base (G a4 n4 c4) (hd ++ [house]) ∧ (w2.alloc (T #[E J house] 3)).grownBy w4 (kag (G ha hn hc)) ∧ zai base w4 pa l ∧ n4 = (hd ++ [house]).length) := ⟨(jq.cell_far ⟨g, q, U⟩ hgA hfar).trans HE.out.1, (jq.cell_far ⟨g, q + 1, U⟩ hgA hfar).trans HE.out.2.1, (jq.cell_far ⟨g, q + 2, U⟩ hgA hfar).trans HE.out.2.2.1, jy, jq, (HQ.out.2.2.1.calm (zg.below hA (Nat.le_refl _))).calm (zg.grown jq (hoA.grownT (by decide))), by rw [hn4]; simp⟩; have HB4 : Q (Blk w4 g gcs 58 ∧ kag (G a4 n4 c4) ≠ some g) := ⟨(HQ.out.2.2.2.2.2.2.2.2.below hA HC.out.1).keptNe jq (fun h => HQ.out.2.2.2.2.2.2.2.1 h), fun e => by rcases jw with h | h; exact HQ.out.2.2.2.2.2.2.2.1 (h.symm.trans e); rw [h] at e; cases e; omega⟩; clear hn4 jw jy jq hgA hfar)
  obtain ⟨s0, s1, s2, -, -, -, -⟩ := HM.out;have HS : Q (za 3 1 zu (r w4 ⟨g, q + 3, U⟩ (G a4 n4 c4)) base (G a4 n4 c4) (hd ++ [house]) ∧ zai base (r w4 ⟨g, q + 3, U⟩ (G a4 n4 c4)) pa l) := ⟨HM.out.2.2.2.1.setNew (a := ⟨g, q + 3, U⟩) HB4.out.2 _, HM.out.2.2.2.2.2.1.calm (zg.setCell (a := ⟨g, q + 3, U⟩) HB4.out.1 (by decide) _)⟩;go_wp2_with fail
  refine (zit dd pa ln pc l dec a4 n4 c4 (hd ++ [house]) _ HQ.out.1 HQ.out.2.1 HS.out.2.at HM.out.2.2.2.2.2.2 (by simp; omega) (HS.out.1.at zaf).1).mono ?_;rintro e w5 ⟨v5, rfl, ho5, hb5⟩;obtain ⟨ga5, gn5, gc5, rfl⟩ := ho5.slice zaf
  have H5 : Q (decide ((wtO l (hd ++ [house])).length = 0) = ((gn5 : Int) == 0) ∧ Z (r w4 ⟨g, q + 3, U⟩ (G a4 n4 c4)).heap.size (r w4 ⟨g, q + 3, U⟩ (G a4 n4 c4)) w5) := by
   refine ⟨?_, hb5⟩;have h : gn5 = (wtO l (hd ++ [house])).length := (ho5.at zaf).2.1;rw [← h, Bool.eq_iff_iff];simp
  have HR := zA hA;clear ho5 hb5 s0 s1 s2 m3 mf hoA hA;go_wp2;go_ret;exact kab ⟨hrr.out, _, w4, a4, n4, c4, by rw [H5.out.1]; rfl, HR.out, HM.out.2.2.2.2.1, HM.out.2.2.2.1, H5.out.2⟩
theorem zmc {m : Q4} : ∀ {opn : List O4}, zb2 m opn = U → ∀ o ∈ opn, o.1 ≠ m.2.1
 | [], _, o, ho => by cases ho
 | x :: t, h, o, ho => by
  unfold zb2 at h
  split at h
  ·cases h
  ·rename_i hne
   rw [Option.map_eq_none_iff] at h;rcases kaf.1 ho with e | ho
   ·rw [e]; exact hne
   ·exact zmc h o ho
theorem zfe {m : Q4} : ∀ {opn : List O4} {x : List O4 × List R3 × List Q4}, zb2 m opn = some x → ∃ A o B, opn = A ++ o :: B ∧ o.1 = m.2.1 ∧ x = (A ++ ((zv m o).1.toList ++ B), (zv m o).2.1, (zv m o).2.2)
 | [], _, h => by cases h
 | y :: t, x, h => by
  unfold zb2 at h
  split at h
  ·rename_i e
   cases h;exact ⟨[], y, t, rfl, e, rfl⟩
  ·obtain ⟨z, hz, rfl⟩ := Option.map_eq_some_iff.1 h
   obtain ⟨A, o, B, rfl, e, rfl⟩ := zfe hz;exact ⟨y :: A, o, B, rfl, e, rfl⟩
theorem dcd_iff {W : WW} {d : Int} : zbc W d ↔ d ∈ (zan W.hd.log).map (·.1) := by
 unfold zbc
 rw [kae]
theorem zf6 {P P' : Int → List P3} {W : WW} {g : Gh} (num : za1 W ≤ za1 { W with hd := g }) (same : ∀ d, d < za1 W → P' d = P d) (dcd : ∀ d, zbc W d → zbc { W with hd := g } d)
  (dcd2 : ∀ d, d < za1 W → zbc { W with hd := g } d → ¬ zdm W d → zbc W d) (und : ∀ d, d < za1 W → undW { W with hd := g } d → undW W d) (opn : ∀ d, d < za1 W → zdm { W with hd := g } d → zdm W d) : zdu P P' W { W with hd := g } :=
 ⟨num, same, dcd, dcd2, fun _ _ h => h, und, opn, fun _ _ _ _ h => h, fun _ _ _ h => kad h⟩
theorem others {A B : List O4} {o : O4} (h : ((A ++ o :: B).map (·.1)).Nodup) : ∀ x, x ∈ A ∨ x ∈ B → x.1 ≠ o.1 := by
 rw [List.map_append, List.map_cons, kai, List.nodup_cons] at h;obtain ⟨_, ⟨h2, _⟩, h3⟩ := h;intro x hx e;rcases hx with hx | hx
 ·exact h3 x.1 (kae.2 ⟨x, hx, rfl⟩) o.1 (by simp) e
 ·exact h2 (e ▸ kae.2 ⟨x, hx, rfl⟩)
theorem cut_nd {A B : List O4} {o : O4} (h : ((A ++ o :: B).map (·.1)).Nodup) : ((A ++ B).map (·.1)).Nodup := by
 refine List.Nodup.sublist ?_ h;exact List.Sublist.map _ (List.Sublist.append (List.Sublist.refl A) (List.sublist_cons_self o B))
theorem Inv.swap {n : Nat} {P : Int → List P3} {W : WW} (I : Inv n P W) {A B : List O4} {o o' : O4} (ho : W.hd.opn = A ++ o :: B) (e1 : o'.1 = o.1) (e2 : o'.2.2.1 = o.2.2.1) (O : zgp n P W o') : Inv n P { W with hd := { W.hd with opn := A ++ o' :: B } } := by
 have mem : ∀ x, x ∈ A ++ o' :: B → x = o' ∨ x ∈ W.hd.opn := fun x hx => by
  rw [ho];rcases kaa.1 hx with hx | hx
  ·exact kab (by simp [hx])
  ·rcases kaf.1 hx with hx | hx
   ·exact kad hx
   ·exact kab (by simp [hx])
 have mem2 : ∀ x, x ∈ W.hd.opn → x = o ∨ x ∈ A ++ o' :: B := fun x hx => by
  rw [ho] at hx;rcases kaa.1 hx with hx | hx
  ·exact kab (by simp [hx])
  ·rcases kaf.1 hx with hx | hx
   ·exact kad hx
   ·exact kab (by simp [hx])
 have hoin : o ∈ W.hd.opn := by rw [ho]; simp
 have hkeys : (A ++ o' :: B).map (·.1) = W.hd.opn.map (·.1) := by rw [ho]; simp [e1]
 have hop : ∀ d, zdm { W with hd := { W.hd with opn := A ++ o' :: B } } d ↔ zdm W d := fun d => by
  constructor
  ·rintro ⟨x, hx, e⟩
   rcases mem x hx with rfl | hx
   ·exact ⟨o, hoin, by rw [← e1]; exact e⟩
   ·exact ⟨x, hx, e⟩
  ·rintro ⟨x, hx, e⟩
   rcases mem2 x hx with rfl | hx
   ·exact ⟨o', by simp, by rw [e1]; exact e⟩
   ·exact ⟨x, hx, e⟩
 have hun : ∀ d, undW { W with hd := { W.hd with opn := A ++ o' :: B } } d → undW W d := fun d => by
  rintro ⟨x, hx, e, hd⟩;rcases mem x hx with rfl | hx
  ·exact ⟨o, hoin, by rw [← e1]; exact e, by rw [← e2]; exact hd⟩
  ·exact ⟨x, hx, e, hd⟩
 have M : zdu P P W { W with hd := { W.hd with opn := A ++ o' :: B } } := zf6 (Int.le_refl _) (fun _ _ => rfl) (fun _ h => h) (fun _ _ h _ => h) (fun d _ h => hun d h) (fun d _ h => (hop d).1 h);refine I.ofHead M I.boot1 I.boot20 I.next0 I.next64 I.bootL ?_ (by show ((A ++ o' :: B).map _).Nodup; rw [hkeys]; exact I.apart) ?_ I.dec I.decNd I.dr (fun x hx hn => I.en x hx (fun h => hn ((hop _).2 h))) ?_ I.hlNd I.hlIn
 ·have := I.few
  rw [ho] at this
  simpa using this
 ·intro x hx
  rcases mem x hx with rfl | hx
  ·exact ⟨O.pos, O.old, O.parts, O.right, O.nd, O.sub, O.less, O.dec, O.rdy, O.dn⟩
  ·have Y := I.opn x hx
   exact ⟨Y.pos, Y.old, Y.parts, Y.right, Y.nd, Y.sub, Y.less, Y.dec, Y.rdy, Y.dn⟩
 ·intro d
  rw [I.hl d];constructor
  ·rintro ⟨x, hx, e, hd⟩
   rcases mem2 x hx with rfl | hx
   ·exact ⟨o', by simp, by rw [e1]; exact e, by rw [e2]; exact hd⟩
   ·exact ⟨x, hx, e, hd⟩
  ·rintro ⟨x, hx, e, hd⟩
   rcases mem x hx with rfl | hx
   ·exact ⟨o, hoin, by rw [← e1]; exact e, by rw [← e2]; exact hd⟩
   ·exact ⟨x, hx, e, hd⟩
theorem Inv.head {n : Nat} {P : Int → List P3} {W : WW} (I : Inv n P W) {m : Q4} (hm : zbo n P W m) :
  Inv n P { W with hd := (zc W.hd m).1 } ∧ ∀ q ∈ (zc W.hd m).2, zbo n P { W with hd := (zc W.hd m).1 } q := by
 have hk0 : 0 ≤ m.2.2.1 ∧ m.2.2.1 ≤ 2 ∧ 0 ≤ m.2.1 ∧ m.2.1 ≤ 1343 := by
  have hr := hm.right;unfold za9 at hr
  split at hr
  ·cases hr
  ·split at hr
   ·cases hr
   ·omega
 unfold zc
 cases hh : zb2 m W.hd.opn with
 | none =>
  refine ⟨I, fun q hq => ?_⟩;simp only at hq
  split at hq
  ·rename_i h7
   rw [kac.1 hq];have hno : ¬ zdm W m.2.1 := fun ⟨o, ho, e⟩ => zmc hh o ho e
   refine ⟨by unfold za9; simp; omega, hm.here, hm.old, fun h => absurd h (by simp), fun h => absurd h (by simp), fun h => absurd h (by simp), fun _ => ⟨hno, fun hd => ?_⟩, fun h => absurd h (by simp), fun h => absurd h (by simp)⟩;obtain ⟨x, hx, e⟩ := hd;have hp := (I.dec x hx).2.2.1;have := I.en x hx (by rw [e]; exact hno) m.2.2.1 (by rw [hp, e]; exact hm.ask h7);show dnW W m.2.2.1 m.2.1
   rw [← e];exact this
  ·cases hq
 | some x =>
  obtain ⟨A, o, B, ho, eo, rfl⟩ := zfe hh;simp only
  have hoin : o ∈ W.hd.opn := by rw [ho]; simp
  have O := I.opn o hoin;have hnum := zf2 I;have hap := I.apart;rw [ho] at hap;have hoth := others hap;unfold zv
  by_cases c1 : m.1 = 2 ∧ o.2.2.1 = false ∧ (inI (zr o.2.1) m.2.2.1 = true ∧ inI o.2.2.2 m.2.2.1 = false)
  ·rw [if_pos c1]
   obtain ⟨k2, hud, hin, hnew⟩ := c1;have hkin := zc6.1 hin;have hknot : m.2.2.1 ∉ o.2.2.2 := fun h => by rw [zc6.2 h] at hnew; cases hnew
   have hnd' : (o.2.2.2 ++ [m.2.2.1]).Nodup := by
    rw [kai];exact ⟨O.nd, by simp, fun a ha b hb e => hknot (by rw [kac.1 hb] at e; exact e ▸ ha)⟩
   have hsub' : ∀ k ∈ o.2.2.2 ++ [m.2.2.1], k ∈ zr o.2.1 := fun k hk => by
    rcases kaa.1 hk with hk | hk
    ·exact O.sub k hk
    ·rw [kac.1 hk]; exact hkin
   have hrd : ∀ k ∈ o.2.2.2 ++ [m.2.2.1], zdy W k o.1 := fun k hk => by
    rcases kaa.1 hk with hk | hk
    ·exact O.rdy hud k hk
    ·rw [kac.1 hk, eo]; exact hm.yes k2 ⟨o, hoin, eo, hud⟩
   by_cases c2 : (o.2.2.2 ++ [m.2.2.1]).length = (zr o.2.1).length
   ·
    rw [if_pos c2];have hnd : ¬ zbc W o.1 := fun h => by have := O.dec.2 h; rw [hud] at this; cases this
    have hall : ∀ k ∈ zr o.2.1, zdy W k o.1 := fun k hk => hrd k (cover hnd' hsub' (by omega) (zik _) k hk)
    have hD : zan (W.hd.log ++ [(5, o.1, o.2.1)]) = zan W.hd.log ++ [(o.1, o.2.1)] := by rw [zgi, if_pos rfl]
    have hH : zaa (W.hd.log ++ [(5, o.1, o.2.1)]) = ((zaa W.hd.log).1, (zaa W.hd.log).2 ++ [(o.1, o.2.1)]) := by rw [zgv]; rfl
    have hdc : ∀ d, zbc { W with hd := { W.hd with opn := A ++ ([(o.1, o.2.1, true, [])] ++ B), log := W.hd.log ++ [(5, o.1, o.2.1)] } } d ↔ zbc W d ∨ d = o.1 := fun d => by
     unfold zbc
     simp only [hD, kaa, kac]
     constructor
     ·rintro ⟨x, hx | rfl, e⟩
      ·exact kad ⟨x, hx, e⟩
      ·exact kab e.symm
     ·rintro (⟨x, hx, e⟩ | rfl)
      ·exact ⟨x, kad hx, e⟩
      ·exact ⟨_, kab rfl, rfl⟩
    have mem : ∀ x, x ∈ A ++ ([(o.1, o.2.1, true, [])] ++ B) → x = (o.1, o.2.1, true, []) ∨ (x ∈ W.hd.opn ∧ x.1 ≠ o.1) := fun x hx => by
     rw [ho];rcases kaa.1 hx with hx | hx
     ·exact kab ⟨by simp [hx], hoth x (kad hx)⟩
     ·rcases kaa.1 hx with hx | hx
      ·exact kad (kac.1 hx)
      ·exact kab ⟨by simp [hx], hoth x (kab hx)⟩
    have mem2 : ∀ x, x ∈ W.hd.opn → x = o ∨ x ∈ A ++ ([(o.1, o.2.1, true, [])] ++ B) := fun x hx => by
     rw [ho] at hx;rcases kaa.1 hx with hx | hx
     ·exact kab (by simp [hx])
     ·rcases kaf.1 hx with hx | hx
      ·exact kad hx
      ·exact kab (by simp [hx])
    have hop : ∀ d, zdm { W with hd := { W.hd with opn := A ++ ([(o.1, o.2.1, true, [])] ++ B), log := W.hd.log ++ [(5, o.1, o.2.1)] } } d ↔ zdm W d := fun d => by
     constructor
     ·rintro ⟨x, hx, e⟩
      rcases mem x hx with rfl | ⟨hx, _⟩
      ·exact ⟨o, hoin, e⟩
      ·exact ⟨x, hx, e⟩
     ·rintro ⟨x, hx, e⟩
      rcases mem2 x hx with ex | hx
      ·exact ⟨(o.1, o.2.1, true, []), by simp, by rw [← e, ex]⟩
      ·exact ⟨x, hx, e⟩
    have M : zdu P P W { W with hd := { W.hd with opn := A ++ ([(o.1, o.2.1, true, [])] ++ B), log := W.hd.log ++ [(5, o.1, o.2.1)] } } := by
     refine zf6 (Int.le_refl _) (fun _ _ => rfl) (fun d h => (hdc d).2 (kad h)) (fun d _ h hno => ?_) (fun d _ => ?_) (fun d _ h => (hop d).1 h)
     ·rcases (hdc d).1 h with h | rfl
      ·exact h
      ·exact absurd ⟨o, hoin, rfl⟩ hno
     ·rintro ⟨x, hx, e, hd⟩
      rcases mem x hx with rfl | ⟨hx, _⟩
      ·cases hd
      ·exact ⟨x, hx, e, hd⟩
    have O' : zgp n P { W with hd := { W.hd with opn := A ++ ([(o.1, o.2.1, true, [])] ++ B), log := W.hd.log ++ [(5, o.1, o.2.1)] } } (o.1, o.2.1, true, []) :=
     ⟨O.pos, O.old, O.parts, O.right, List.nodup_nil, (fun k hk => by cases hk), zju I.n3 O.right, ⟨fun _ => (hdc _).2 (kab rfl), fun _ => rfl⟩, (fun h => by cases h), (fun _ k hk => by cases hk)⟩
    have I' : Inv n P { W with hd := { W.hd with opn := A ++ ([(o.1, o.2.1, true, [])] ++ B), log := W.hd.log ++ [(5, o.1, o.2.1)] } } := by
     refine I.ofHead M I.boot1 I.boot20 I.next0 I.next64 ?_ ?_ ?_ ?_ ?_ ?_ ?_ ?_ ?_ ?_ ?_
     ·show W.hd.boot = (zaa (W.hd.log ++ [(5, o.1, o.2.1)])).1; rw [hH]; exact I.bootL
     ·have := I.few; rw [ho] at this; simpa using this
     ·show ((A ++ ([((o.1, o.2.1, true, []) : O4)] ++ B)).map (fun o : O4 => o.1)).Nodup
      have := I.apart;rw [ho] at this
      simpa using this
     ·intro x hx
      rcases mem x hx with rfl | ⟨hx, hne⟩
      ·exact O'
      ·have Y := I.opn x hx
       refine ⟨Y.pos, Y.old, Y.parts, Y.right, Y.nd, Y.sub, Y.less, ?_, Y.rdy, Y.dn⟩;rw [hdc, Y.dec];constructor
       ·exact kad
       ·rintro (h | h)
        ·exact h
        ·exact absurd h hne
     ·show ∀ x ∈ zan (W.hd.log ++ [(5, o.1, o.2.1)]), _
      rw [hD];intro x hx;rcases kaa.1 hx with hx | hx
      ·exact I.dec x hx
      ·rw [kac.1 hx]; exact ⟨O.pos, O.old, O.parts, O.right⟩
     ·show ((zan (W.hd.log ++ [(5, o.1, o.2.1)])).map (·.1)).Nodup
      rw [hD, List.map_append, kai];refine ⟨I.decNd, by simp, fun a ha b hb e => ?_⟩;simp at hb
      subst hb;subst e;exact hnd (dcd_iff.2 ha)
     ·show ∀ x ∈ zan (W.hd.log ++ [(5, o.1, o.2.1)]), _
      rw [hD];intro x hx;rcases kaa.1 hx with hx | hx
      ·exact I.dr x hx
      ·rw [kac.1 hx]; exact fun k hk => kad (hall k hk)
     ·show ∀ x ∈ zan (W.hd.log ++ [(5, o.1, o.2.1)]), _
      rw [hD];intro x hx hno;rcases kaa.1 hx with hx | hx
      ·exact I.en x hx (fun h => hno ((hop _).2 h))
      ·rw [kac.1 hx] at hno; exact absurd ((hop _).2 ⟨o, hoin, rfl⟩) hno
     ·intro d
      show (∃ x ∈ (zaa (W.hd.log ++ [(5, o.1, o.2.1)])).2, x.1 = d) ↔ _
      rw [hH];constructor
      ·rintro ⟨x, hx, e⟩
       rcases kaa.1 hx with hx | hx
       ·obtain ⟨y, hy, e', hd⟩ := (I.hl d).1 ⟨x, hx, e⟩
        rcases mem2 y hy with rfl | hy
        ·rw [hud] at hd; cases hd
        ·exact ⟨y, hy, e', hd⟩
       ·rw [kac.1 hx] at e; exact ⟨(o.1, o.2.1, true, []), by simp, e, rfl⟩
      ·rintro ⟨x, hx, e, hd⟩
       rcases mem x hx with rfl | ⟨hx, _⟩
       ·exact ⟨(o.1, o.2.1), by simp, e⟩
       ·obtain ⟨y, hy, e'⟩ := (I.hl d).2 ⟨x, hx, e, hd⟩
        exact ⟨y, kaa.2 (kad hy), e'⟩
     ·show ((zaa (W.hd.log ++ [(5, o.1, o.2.1)])).2.map (·.1)).Nodup
      rw [hH];show (((zaa W.hd.log).2 ++ [(o.1, o.2.1)]).map (·.1)).Nodup
      rw [List.map_append, kai];refine ⟨I.hlNd, by simp, fun a ha b hb e => ?_⟩;simp at hb
      subst hb;subst e;obtain ⟨y, hy, e'⟩ := kae.1 ha;exact hnd ⟨y, I.hlIn y hy, e'⟩
     ·show ∀ x ∈ (zaa (W.hd.log ++ [(5, o.1, o.2.1)])).2, x ∈ zan (W.hd.log ++ [(5, o.1, o.2.1)])
      rw [hH, hD];intro x hx;rcases kaa.1 hx with hx | hx
      ·exact kaa.2 (kad (I.hlIn x hx))
      ·exact kaa.2 (kab hx)
    exact ⟨I', fun q hq => zjq I.n3 (zf2 I') O' q hq⟩
   ·
    rw [if_neg c2]
    have hlt : (o.2.2.2 ++ [m.2.2.1]).length < (zr o.2.1).length := by
     have := O.less;rw [List.length_append, List.length_singleton] at c2 ⊢
     omega
    have := I.swap (o' := (o.1, o.2.1, false, o.2.2.2 ++ [m.2.2.1])) ho rfl hud.symm ⟨O.pos, O.old, O.parts, O.right, hnd', hsub', hlt, by show false = true ↔ _; rw [← hud]; exact O.dec, fun _ => hrd, fun h => by cases h⟩;refine ⟨?_, fun q hq => by cases hq⟩
    simpa using this
  ·rw [if_neg c1]
   by_cases c3 : m.1 = 3 ∧ o.2.2.1 = false
   ·
    rw [if_pos c3];have hnd : ¬ zbc W o.1 := fun h => by have := O.dec.2 h; rw [c3.2] at this; cases this
    have mem : ∀ x, x ∈ A ++ B → x ∈ W.hd.opn ∧ x.1 ≠ o.1 := fun x hx => by
     rw [ho];rcases kaa.1 hx with hx | hx
     ·exact ⟨by simp [hx], hoth x (kad hx)⟩
     ·exact ⟨by simp [hx], hoth x (kab hx)⟩
    have mem2 : ∀ x, x ∈ W.hd.opn → x = o ∨ x ∈ A ++ B := fun x hx => by
     rw [ho] at hx;rcases kaa.1 hx with hx | hx
     ·exact kab (by simp [hx])
     ·rcases kaf.1 hx with hx | hx
      ·exact kad hx
      ·exact kab (by simp [hx])
    have M : zdu P P W { W with hd := { W.hd with opn := A ++ B } } := zf6 (Int.le_refl _) (fun _ _ => rfl) (fun _ h => h) (fun _ _ h _ => h) (fun d _ ⟨x, hx, e, hd⟩ => ⟨x, (mem x hx).1, e, hd⟩) (fun d _ ⟨x, hx, e⟩ => ⟨x, (mem x hx).1, e⟩)
    have I' : Inv n P { W with hd := { W.hd with opn := A ++ B } } := by
     refine I.ofHead M I.boot1 I.boot20 I.next0 I.next64 I.bootL ?_ (cut_nd hap) ?_ I.dec I.decNd I.dr ?_ ?_ I.hlNd I.hlIn
     ·have := I.few; rw [ho] at this; simp at this ⊢; omega
     ·intro x hx
      have Y := I.opn x (mem x hx).1;exact ⟨Y.pos, Y.old, Y.parts, Y.right, Y.nd, Y.sub, Y.less, Y.dec, Y.rdy, Y.dn⟩
     ·intro x hx hno
      refine I.en x hx (fun ⟨y, hy, e⟩ => ?_);rcases mem2 y hy with rfl | hy
      ·exact hnd ⟨x, hx, e.symm⟩
      ·exact hno ⟨y, hy, e⟩
     ·intro d
      rw [I.hl d];constructor
      ·rintro ⟨x, hx, e, hd⟩
       rcases mem2 x hx with rfl | hx
       ·rw [c3.2] at hd; cases hd
       ·exact ⟨x, hx, e, hd⟩
      ·rintro ⟨x, hx, e, hd⟩
       exact ⟨x, (mem x hx).1, e, hd⟩
    have : Inv n P { W with hd := { W.hd with opn := A ++ ((U : Option O4).toList ++ B), log := W.hd.log ++ [] } } := by simpa using I'
    refine ⟨this, fun q hq => ?_⟩;have := zkq (P := P) (W := { W with hd := { W.hd with opn := A ++ B } }) I.n3 hnum O.pos O.old O.right (fun ⟨x, hx, e⟩ => (mem x hx).2 e) hnd q hq
    simpa using this
   ·rw [if_neg c3]
    by_cases c4 : m.1 = 6 ∧ o.2.2.1 = true ∧ (inI (zr o.2.1) m.2.2.1 = true ∧ inI o.2.2.2 m.2.2.1 = false)
    ·rw [if_pos c4]
     obtain ⟨k6, hud, hin, hnew⟩ := c4;have hkin := zc6.1 hin;have hknot : m.2.2.1 ∉ o.2.2.2 := fun h => by rw [zc6.2 h] at hnew; cases hnew
     have hnd' : (o.2.2.2 ++ [m.2.2.1]).Nodup := by
      rw [kai];exact ⟨O.nd, by simp, fun a ha b hb e => hknot (by rw [kac.1 hb] at e; exact e ▸ ha)⟩
     have hsub' : ∀ k ∈ o.2.2.2 ++ [m.2.2.1], k ∈ zr o.2.1 := fun k hk => by
      rcases kaa.1 hk with hk | hk
      ·exact O.sub k hk
      ·rw [kac.1 hk]; exact hkin
     have hdn : ∀ k ∈ o.2.2.2 ++ [m.2.2.1], dnW W k o.1 := fun k hk => by
      rcases kaa.1 hk with hk | hk
      ·exact O.dn hud k hk
      ·rw [kac.1 hk, eo]; exact hm.ack k6
     by_cases c5 : (o.2.2.2 ++ [m.2.2.1]).length = (zr o.2.1).length
     ·
      rw [if_pos c5];have hall : ∀ k ∈ zr o.2.1, dnW W k o.1 := fun k hk => hdn k (cover hnd' hsub' (by omega) (zik _) k hk)
      have hD : zan (W.hd.log ++ [(6, o.1, [])]) = zan W.hd.log := by rw [zgi, if_neg (show ¬ (6 : Int) = 5 by decide), List.append_nil]
      have hH : zaa (W.hd.log ++ [(6, o.1, [])]) = ((zaa W.hd.log).1, zal (zaa W.hd.log).2 o.1) := by rw [zgv]; rfl
      have mem : ∀ x, x ∈ A ++ B → x ∈ W.hd.opn ∧ x.1 ≠ o.1 := fun x hx => by
       rw [ho];rcases kaa.1 hx with hx | hx
       ·exact ⟨by simp [hx], hoth x (kad hx)⟩
       ·exact ⟨by simp [hx], hoth x (kab hx)⟩
      have mem2 : ∀ x, x ∈ W.hd.opn → x = o ∨ x ∈ A ++ B := fun x hx => by
       rw [ho] at hx;rcases kaa.1 hx with hx | hx
       ·exact kab (by simp [hx])
       ·rcases kaf.1 hx with hx | hx
        ·exact kad hx
        ·exact kab (by simp [hx])
      have hdc : ∀ d, zbc { W with hd := { W.hd with opn := A ++ B, log := W.hd.log ++ [(6, o.1, [])] } } d ↔ zbc W d := fun d => by
       unfold zbc
       simp only [hD]
      have M : zdu P P W { W with hd := { W.hd with opn := A ++ B, log := W.hd.log ++ [(6, o.1, [])] } } := zf6 (Int.le_refl _) (fun _ _ => rfl) (fun d h => (hdc d).2 h) (fun d _ h _ => (hdc d).1 h) (fun d _ ⟨x, hx, e, hd⟩ => ⟨x, (mem x hx).1, e, hd⟩) (fun d _ ⟨x, hx, e⟩ => ⟨x, (mem x hx).1, e⟩)
      have I' : Inv n P { W with hd := { W.hd with opn := A ++ B, log := W.hd.log ++ [(6, o.1, [])] } } := by
       refine I.ofHead M I.boot1 I.boot20 I.next0 I.next64 ?_ ?_ (cut_nd hap) ?_ ?_ ?_ ?_ ?_ ?_ ?_ ?_
       ·show W.hd.boot = (zaa (W.hd.log ++ [(6, o.1, [])])).1; rw [hH]; exact I.bootL
       ·have := I.few; rw [ho] at this; simp at this ⊢; omega
       ·intro x hx
        have Y := I.opn x (mem x hx).1;exact ⟨Y.pos, Y.old, Y.parts, Y.right, Y.nd, Y.sub, Y.less, by rw [hdc]; exact Y.dec, Y.rdy, Y.dn⟩
       ·show ∀ x ∈ zan (W.hd.log ++ [(6, o.1, [])]), _
        rw [hD]; exact I.dec
       ·show ((zan (W.hd.log ++ [(6, o.1, [])])).map (·.1)).Nodup
        rw [hD]; exact I.decNd
       ·show ∀ x ∈ zan (W.hd.log ++ [(6, o.1, [])]), _
        rw [hD]; exact I.dr
       ·show ∀ x ∈ zan (W.hd.log ++ [(6, o.1, [])]), _
        rw [hD];intro x hx hno;by_cases e : x.1 = o.1
        ·have hp : x.2 = o.2.1 := by rw [(I.dec x hx).2.2.1, O.parts, e]
         intro k hk;rw [e];exact hall k (by rw [← hp]; exact hk)
        ·refine I.en x hx (fun ⟨y, hy, e'⟩ => ?_)
         rcases mem2 y hy with rfl | hy
         ·exact e e'.symm
         ·exact hno ⟨y, hy, e'⟩
       ·intro d
        show (∃ x ∈ (zaa (W.hd.log ++ [(6, o.1, [])])).2, x.1 = d) ↔ _
        rw [hH];constructor
        ·rintro ⟨x, hx, e⟩
         obtain ⟨hx1, hx2⟩ := zcz hx;obtain ⟨y, hy, e', hd⟩ := (I.hl d).1 ⟨x, hx1, e⟩;rcases mem2 y hy with rfl | hy
         ·exact absurd (e.trans e'.symm) hx2
         ·exact ⟨y, hy, e', hd⟩
        ·rintro ⟨x, hx, e, hd⟩
         obtain ⟨y, hy, e'⟩ := (I.hl d).2 ⟨x, (mem x hx).1, e, hd⟩;refine ⟨y, ?_, e'⟩;show y ∈ zal _ _
         unfold zal
         rw [kah];refine ⟨hy, ?_⟩;have : y.1 ≠ o.1 := fun h => (mem x hx).2 (by rw [e, ← e', h])
         simpa using this
       ·show ((zaa (W.hd.log ++ [(6, o.1, [])])).2.map (·.1)).Nodup
        rw [hH]; exact zh9 I.hlNd _
       ·show ∀ x ∈ (zaa (W.hd.log ++ [(6, o.1, [])])).2, x ∈ zan (W.hd.log ++ [(6, o.1, [])])
        rw [hH, hD];exact fun x hx => I.hlIn x (zcz hx).1
      refine ⟨?_, fun q hq => by cases hq⟩
      simpa using I'
     ·rw [if_neg c5]
      have hlt : (o.2.2.2 ++ [m.2.2.1]).length < (zr o.2.1).length := by
       have := O.less;rw [List.length_append, List.length_singleton] at c5 ⊢
       omega
      have := I.swap (o' := (o.1, o.2.1, true, o.2.2.2 ++ [m.2.2.1])) ho rfl hud.symm ⟨O.pos, O.old, O.parts, O.right, hnd', hsub', hlt, ⟨fun _ => O.dec.1 hud, fun _ => rfl⟩, (fun h => by cases h), fun _ => hdn⟩;refine ⟨?_, fun q hq => by cases hq⟩
      simpa using this
    ·rw [if_neg c4]
     have hsame : ({ W with hd := { W.hd with opn := A ++ ((some o).toList ++ B), log := W.hd.log ++ [] } } : WW) = W := by
      have e : A ++ ((some o).toList ++ B) = W.hd.opn := by rw [ho]; rfl
      rw [e, List.append_nil]
     by_cases c6 : m.1 = 7 ∧ o.2.2.1 = true
     ·rw [if_pos c6]
      simp only
      rw [hsame];refine ⟨I, fun q hq => ?_⟩;rw [kac.1 hq];exact ⟨by unfold za9; simp; omega, hm.here, hm.old, fun h => absurd h (by simp), fun h => absurd h (by simp), fun _ => ⟨by show zbc W m.2.1; rw [← eo]; exact O.dec.1 c6.2, hm.ask c6.1⟩, fun h => absurd h (by simp), fun h => absurd h (by simp), fun h => absurd h (by simp)⟩
     ·rw [if_neg c6]
      simp only
      rw [hsame];exact ⟨I, fun q hq => by cases hq⟩
theorem zhv (l : List P3) (hd : List Int) (x : Int) : inI (wtO l hd) x = (inI (zr l) x && !inI hd x) := by
 rw [Bool.eq_iff_iff, zc6, Bool.and_eq_true, zc6, Bool.not_eq_true'];unfold wtO
 rw [kah];simp
theorem zmt {l : List P3} {hd : List Int} {x : Int} (hn : hd.Nodup) (hs : ∀ k ∈ hd, k ∈ zr l) (hx : x ∈ zr l) (hxn : x ∉ hd) : (wtO l (hd ++ [x])).length = 0 ↔ (hd ++ [x]).length = (zr l).length := by
 have hn' : (hd ++ [x]).Nodup := by
  rw [kai];exact ⟨hn, by simp, fun a ha b hb e => by rw [kac.1 hb] at e; exact hxn (e ▸ ha)⟩
 have hs' : ∀ k ∈ hd ++ [x], k ∈ zr l := fun k hk => by
  rcases kaa.1 hk with hk | hk
  ·exact hs k hk
  ·rw [kac.1 hk]; exact hx
 have hle := zg1 hn' hs';constructor
 ·intro h
  have h0 := List.eq_nil_of_length_eq_zero h;unfold wtO at h0
  rw [List.filter_eq_nil_iff] at h0
  have h1 : ∀ k ∈ zr l, k ∈ hd ++ [x] := fun k hk => by
   have h2 := h0 k hk;rw [Bool.not_eq_true, Bool.not_eq_false'] at h2;exact zc6.1 h2
  have h3 := zg1 (zik l) h1;omega
 ·intro h
  have h1 := cover hn' hs' (by omega) (zik l)
  have h0 : wtO l (hd ++ [x]) = [] := by
   unfold wtO
   rw [List.filter_eq_nil_iff];intro k hk;rw [Bool.not_eq_true, Bool.not_eq_false'];exact zc6.2 (h1 k hk)
  rw [h0]; rfl
theorem zgt {m : Q4} : ∀ {O : List O4} {i : Nat} (hi : i < O.length), O[i].1 = m.2.1 → (∀ j (hj : j < O.length), j < i → O[j].1 ≠ m.2.1) → zb2 m O = some (O.take i ++ ((zv m O[i]).1.toList ++ O.drop (i + 1)), (zv m O[i]).2.1, (zv m O[i]).2.2)
 | [], i, hi, _, _ => by simp at hi
 | o :: t, 0, _, h, _ => by
  simp only [List.getElem_cons_zero] at h
  simp [zb2, h]
 | o :: t, i + 1, hi, h, hl => by
  have h0 : o.1 ≠ m.2.1 := hl 0 (by simp) (by omega);have ih := zgt (m := m) (O := t) (i := i) (by simpa using hi) (by simpa using h) (fun j hj hji => hl (j + 1) (Nat.succ_lt_succ hj) (by omega));simp only [zb2, if_neg h0, ih, Option.map_some, List.take_succ_cons, List.getElem_cons_succ, List.drop_succ_cons, List.cons_append]
theorem zld {m : Q4} : ∀ {O : List O4}, (∀ o ∈ O, o.1 ≠ m.2.1) → zb2 m O = U
 | [], _ => rfl
 | o :: t, h => by
  simp only [zb2, if_neg (h o List.mem_cons_self), zld (fun x hx => h x (List.mem_cons_of_mem _ hx)), Option.map_none]
theorem zoq (la oa : Option Addr) (nl lc no oc : Nat) (bt nx : Int) (L : List R3) (O : List O4) (Y : List XL) (X : List XO) (mk md mh : Int) (ma : Option Addr) (mn mc : Nat) (ml : List P3) (w : World) (H : zbh (fun _ => False) w la nl Y oa no X L O) (hf : zcf O) (hok : OkL L) (hl : L.length ≤ 400000) (hno : ∀ o ∈ O, o.1 ≠ md) :
  Calls Tryz.prog 24 #[.agg #[G la nl lc, E J bt, E J nx, G oa no oc], .agg #[E J mk, E J md, E J mh, G ma mn mc]] w fun e w' => ∃ v' sv, e = .returned (.tuple #[v', sv]) ∧ (∀ R : Nat → Prop, (∀ b, R b → b < w.heap.size) → zy R w' v' (zc ⟨L, bt, nx, O⟩ (mk, md, mh, ml)).1) ∧ zm w' w.heap.size sv (zc ⟨L, bt, nx, O⟩ (mk, md, mh, ml)).2 ∧ Z w.heap.size w w' := by
 have hb0 : Z w.heap.size w (((w.alloc (T #[G la nl lc, E J bt, E J nx, G oa no oc] 29)).alloc (T #[E J mk, E J md, E J mh, G ma mn mc] 25)).alloc (T #[G U 0 0, E J 0, E J 0, G U 0 0] 29)) := (zaw w (T #[G la nl lc, E J bt, E J nx, G oa no oc] 29) (T #[E J mk, E J md, E J mh, G ma mn mc] 25)).alloc (by simp; omega) _;have h0 : Blk (((w.alloc (T #[G la nl lc, E J bt, E J nx, G oa no oc] 29)).alloc (T #[E J mk, E J md, E J mh, G ma mn mc] 25)).alloc (T #[G U 0 0, E J 0, E J 0, G U 0 0] 29)) w.heap.size #[G la nl lc, E J bt, E J nx, G oa no oc] 29 := ((Blk.new _ _ _).alloc _).alloc _;have hm0 : Blk (((w.alloc (T #[G la nl lc, E J bt, E J nx, G oa no oc] 29)).alloc (T #[E J mk, E J md, E J mh, G ma mn mc] 25)).alloc (T #[G U 0 0, E J 0, E J 0, G U 0 0] 29)) (w.heap.size + 1) #[E J mk, E J md, E J mh, G ma mn mc] 25 := Blk.alloc (zao _ _ _) _;have hs2 : ((w.alloc (T #[G la nl lc, E J bt, E J nx, G oa no oc] 29)).alloc (T #[E J mk, E J md, E J mh, G ma mn mc] 25)).heap.size = w.heap.size + 2 := by simp
 have hz0 : Blk (((w.alloc (T #[G la nl lc, E J bt, E J nx, G oa no oc] 29)).alloc (T #[E J mk, E J md, E J mh, G ma mn mc] 25)).alloc (T #[G U 0 0, E J 0, E J 0, G U 0 0] 29)) (w.heap.size + 2) #[G U 0 0, E J 0, E J 0, G U 0 0] 29 := by rw [← hs2]; exact Blk.new _ _ _
 have hs0 : (((w.alloc (T #[G la nl lc, E J bt, E J nx, G oa no oc] 29)).alloc (T #[E J mk, E J md, E J mh, G ma mn mc] 25)).alloc (T #[G U 0 0, E J 0, E J 0, G U 0 0] 29)).heap.size = w.heap.size + 3 := by simp
 have hnL : nl = L.length := by rw [← H.says, List.length_map]; exact H.ln
 have HG := zE (H.below hb0) hf hok hl hnL;clear H hf hok hl hnL hs2;go_enter Tryz.func24, Tryz.ntmps24
 go_upto_region 1 with fail
 generalize (((w.alloc (T #[G la nl lc, E J bt, E J nx, G oa no oc] 29)).alloc (T #[E J mk, E J md, E J mh, G ma mn mc] 25)).alloc (T #[G U 0 0, E J 0, E J 0, G U 0 0] 29)) = V at *;obtain ⟨x0, x1, x2, x3⟩ := h0.cells4;have l0 := h0.lt;go_wp2_with fail
 refine (zf7 la oa nl lc no oc bt nx Y X L O V HG.out.1 HG.out.2.1 HG.out.2.2.1 (by have := HG.out.2.2.2.1; omega)).mono ?_;rintro e w2 ⟨_, rfl, ⟨a2, n2, c2, Y2, a3, n3, c3, X2, rfl, hO2, hE2⟩, hbw2⟩;have hn2 : n2 = nl := by rw [(hO2.log.1.at za7).2.1, HG.out.2.2.2.2, ← hO2.says, List.length_map]
 subst hn2
 have H1 : Q (HrS w mk md mh (G ma mn mc) bt nx w2.heap.size (w2.alloc (T #[G a2 n2 c2, E J bt, E J nx, G a3 n3 c3] 29)) a2 n2 c2 Y2 L a3 n3 c3 X2 O) := by
  have hbb := zh w2 (T #[G a2 n2 c2, E J bt, E J nx, G a3 n3 c3] 29);have hsz := hbw2.size;exact ⟨(hm0.below hbw2 hm0.lt).below hbb (by omega), (hz0.below hbw2 hz0.lt).below hbb (by omega), Blk.new _ _ _, (hO2.mono (by omega : w.heap.size + 3 ≤ V.heap.size)).below hbb, (hE2.mono (by omega : w.heap.size + 3 ≤ V.heap.size)).below hbb, (hb0.trans (hbw2.mono hb0.size)).trans (hbb.mono (by omega)), by omega⟩
 clear hO2 hE2 hbw2 hb0 hz0 hm0 h0 hs0 x0 x1 x2 x3 l0;go_upto_region 3 with fail
 obtain ⟨N7, hN7⟩ : ∃ N7, N7 = w2.heap.size := ⟨_, rfl⟩;rw [← hN7] at H1;generalize w2.alloc (T #[G a2 n2 c2, E J bt, E J nx, G a3 n3 c3] 29) = A at *;rw [← hN7];clear hN7;obtain ⟨nl, hnl'⟩ : ∃ nl, nl = n2 := ⟨_, rfl⟩;subst hnl';have x3 := H1.out.ob.cell 3;simp only [kaj, kak, List.getElem?_cons_succ] at x3
 have l0 := H1.out.ob.lt;have hn3 : Q (n3 = X2.length ∧ X2.length ≤ 100000) := ⟨(H1.out.hd.opn.at zaq).2.1, by have h1 := H1.out.hd.osays; have h2 := HG.out.2.1.1; rw [← h1, List.length_map] at h2; exact h2⟩;go_wp2_with fail
 refine (zfy 56 #[.pointer (some ⟨w.heap.size + 1, 0, U⟩)] zge (fun x => x.1 == md) a3 X2 c3 n3 A hn3.out.1 (by have := hn3.out.2; omega) (H1.out.hd.opn.at zaq).1 (fun x _ w' hb => zgf (w.heap.size + 1) mk md mh x.1 (G ma mn mc) _ _ _ w' (H1.out.mb.below hb H1.out.mb.lt))).mono ?_;rintro e w3 ⟨jj, rfl, hidx, hb3⟩;have HX := zA hidx;have H3 : Q (HrS w mk md mh (G ma mn mc) bt nx N7 (w3.alloc (T #[E J jj] 3)) a2 nl c2 Y2 L a3 n3 c3 X2 O ∧ Blk (w3.alloc (T #[E J jj] 3)) w3.heap.size #[E J jj] 3) := ⟨(H1.out.below hb3).below (zh w3 _), Blk.new _ _ _⟩;clear hidx hb3 H1 x3 l0;go_upto_region 4 with fail
 generalize w3.alloc (T #[E J jj] 3) = D at *;have i0 := H3.out.2.cell 0;simp only [kaj, kak] at i0
 have li := H3.out.2.lt
 have hr : Q (jj = -1) := by
  rcases HX.out with ⟨h, _⟩ | ⟨i, hi, _, hp, _⟩
  ·exact h
  ·exfalso
   have h1 := hno (zw X2[i]) (by rw [← H3.out.1.hd.osays]; exact kae.2 ⟨_, List.getElem_mem hi, rfl⟩);exact h1 (by simpa [zw] using hp)
 have hrn := hr.out;subst hrn;have HH : Q (zb2 (mk, md, mh, ml) O = U) := zld hno;clear hno;by_cases k7 : mk = 7
 ·have HP : Q (zc ⟨L, bt, nx, O⟩ (mk, md, mh, ml) = (⟨L, bt, nx, O⟩, [(5, md, mh, [])])) := by
   show _ = _
   unfold zc
   simp only
   rw [HH.out];simp [k7]
  have m0 := H3.out.1.mb.cell 0;simp only [kaj, kak] at m0
  have lm := H3.out.1.mb.lt;have e7 : (mk == 7) = true := by simpa using k7
  clear k7;go_upto_region 6 with fail
  clear i0 li m0 lm e7;have hX1 : Z D.heap.size D D.drew := (Below.refl _ _).drew;have HK : Q (∀ w', Z D.heap.size D w' → (w'.cell? ⟨N7, 0, U⟩ = some (G a2 nl c2) ∧ w'.cell? ⟨N7, 1, U⟩ = some (E J bt) ∧ w'.cell? ⟨N7, 2, U⟩ = some (E J nx) ∧ w'.cell? ⟨N7, 3, U⟩ = some (G a3 n3 c3))) := fun w' hb => ⟨(H3.out.1.ob.below hb H3.out.1.ob.lt).cell 0, (H3.out.1.ob.below hb H3.out.1.ob.lt).cell 1, (H3.out.1.ob.below hb H3.out.1.ob.lt).cell 2, (H3.out.1.ob.below hb H3.out.1.ob.lt).cell 3⟩
  refine zb9 (S := fun w' => (w'.cell? ⟨N7, 0, U⟩ = some (G a2 nl c2) ∧ w'.cell? ⟨N7, 1, U⟩ = some (E J bt) ∧ w'.cell? ⟨N7, 2, U⟩ = some (E J nx) ∧ w'.cell? ⟨N7, 3, U⟩ = some (G a3 n3 c3))) 3 (by kernel_rfl) (HK.out _ hX1) (fun hHeld => ?_);refine tks 2 [(0, 25), (1, 26)] (b := ?_) rfl (by decide +kernel) (fun _ _ _ _ _ h => h) ?_ hHeld ?_;rotate_left 1
  ·iterate 2 (refine zo.cons (v := ?_) rfl rfl (by rfl) ?_ ?_; rotate_left 1; (intro w h; (try dsimp only at h); go_simp; try with_reducible rfl))
   exact zo.nil
  refine rdy 2 (by kernel_rfl) rfl (fun K hK => ?_);go_simp;refine (zmk (w.heap.size + 1) mk md mh 5 (G ma mn mc) D.drew (H3.out.1.mb.below hX1 H3.out.1.mb.lt)).mono ?_;rintro e w4 ⟨v4, rfl, hM4, hb4⟩;have hX4 := hX1.trans (hb4.mono hX1.size);have hM4' : zm w4 w.heap.size v4 [(5, md, mh, [])] := hM4.mono (by have h1 := H3.out.1.bel.size; have h2 := hX1.size; omega);clear hM4 hb4;go_wp2_with fail
  refine kgo hK (by decide +kernel) ((HK.out _ hX4)) (fun hHeld => ?_);clear hK K;have z := H3.out.1.rb.below hX4 H3.out.1.rb.lt;obtain ⟨t0, t1, t2, t3⟩ := z.cells4;obtain ⟨y0, y1, y2, y3⟩ := z.free4;have lr := z.lt;refine rdy 3 (by kernel_rfl) rfl (fun K hK => ?_);go_simp;refine za5 hK (by decide +kernel) ?_;clear hK K hHeld;refine rdy 4 (by kernel_rfl) rfl (fun K hK => ?_);go_simp;refine za5 hK (by decide +kernel) ?_;clear hK K;refine zbd (by kernel_rfl) ?_ _;obtain ⟨p1, p2, p3⟩ := (H3.out.1.below hX4).ret;obtain ⟨e0, e1, e2, e3⟩ := p3.cells4;have HF : Q ((∀ R : Nat → Prop, (∀ b, R b → b < w.heap.size) → zy R (r (r (r (r w4 ⟨(w.heap.size + 2), 0, U⟩ (G a2 nl c2)) ⟨(w.heap.size + 2), 1, U⟩ (E J bt)) ⟨(w.heap.size + 2), 2, U⟩ (E J nx)) ⟨(w.heap.size + 2), 3, U⟩ (G a3 n3 c3)) (.agg #[G a2 nl c2, E J bt, E J nx, G a3 n3 c3]) (zc ⟨L, bt, nx, O⟩ (mk, md, mh, ml)).1) ∧ zm (r (r (r (r w4 ⟨(w.heap.size + 2), 0, U⟩ (G a2 nl c2)) ⟨(w.heap.size + 2), 1, U⟩ (E J bt)) ⟨(w.heap.size + 2), 2, U⟩ (E J nx)) ⟨(w.heap.size + 2), 3, U⟩ (G a3 n3 c3)) w.heap.size v4 (zc ⟨L, bt, nx, O⟩ (mk, md, mh, ml)).2 ∧ Z w.heap.size w (r (r (r (r w4 ⟨(w.heap.size + 2), 0, U⟩ (G a2 nl c2)) ⟨(w.heap.size + 2), 1, U⟩ (E J bt)) ⟨(w.heap.size + 2), 2, U⟩ (E J nx)) ⟨(w.heap.size + 2), 3, U⟩ (G a3 n3 c3))) := by rw [HP.out]; exact ⟨p1, hM4'.set4 z _ _ _ _, p2⟩
  clear p1 p2 p3 hM4' z t0 t1 t2 t3 y0 y1 y2 y3 lr;generalize (r (r (r (r w4 ⟨(w.heap.size + 2), 0, U⟩ (G a2 nl c2)) ⟨(w.heap.size + 2), 1, U⟩ (E J bt)) ⟨(w.heap.size + 2), 2, U⟩ (E J nx)) ⟨(w.heap.size + 2), 3, U⟩ (G a3 n3 c3)) = Z9 at *;go_wp2_with fail
  refine bodyPost_ret (v := .tuple #[.agg #[G a2 nl c2, E J bt, E J nx, G a3 n3 c3], v4]) ?_ rfl ⟨_, _, rfl, HF.out.1, HF.out.2.1, HF.out.2.2⟩;simp [results, Tryz.results24, go_sem, e0, e1, e2, e3]
 ·have HP : Q (zc ⟨L, bt, nx, O⟩ (mk, md, mh, ml) = (⟨L, bt, nx, O⟩, [])) := by
   show _ = _
   unfold zc
   simp only
   rw [HH.out];simp [k7]
  have m0 := H3.out.1.mb.cell 0;simp only [kaj, kak] at m0
  have lm := H3.out.1.mb.lt;have e7 : (mk == 7) = false := by simpa using k7
  clear k7;go_upto_region 7 with fail
  clear i0 li m0 lm e7;obtain ⟨r0, r1, r2, r3⟩ := (H3.out.1).ob.cells4;obtain ⟨t0, t1, t2, t3⟩ := (H3.out.1).rb.cells4;obtain ⟨y0, y1, y2, y3⟩ := (H3.out.1).rb.free4;have lo := (H3.out.1).ob.lt;have lr := (H3.out.1).rb.lt;obtain ⟨p1, p2, p3⟩ := (H3.out.1).ret;obtain ⟨e0, e1, e2, e3⟩ := p3.cells4;have HF : Q ((∀ R : Nat → Prop, (∀ b, R b → b < w.heap.size) → zy R ((((D.setCell ⟨(w.heap.size + 2), 0, U⟩ (G a2 nl c2)).setCell ⟨(w.heap.size + 2), 1, U⟩ (E J bt)).setCell ⟨(w.heap.size + 2), 2, U⟩ (E J nx)).setCell ⟨(w.heap.size + 2), 3, U⟩ (G a3 n3 c3)) (.agg #[G a2 nl c2, E J bt, E J nx, G a3 n3 c3]) (zc ⟨L, bt, nx, O⟩ (mk, md, mh, ml)).1) ∧ zm ((((D.setCell ⟨(w.heap.size + 2), 0, U⟩ (G a2 nl c2)).setCell ⟨(w.heap.size + 2), 1, U⟩ (E J bt)).setCell ⟨(w.heap.size + 2), 2, U⟩ (E J nx)).setCell ⟨(w.heap.size + 2), 3, U⟩ (G a3 n3 c3)) w.heap.size (G U 0 0) (zc ⟨L, bt, nx, O⟩ (mk, md, mh, ml)).2 ∧ Z w.heap.size w ((((D.setCell ⟨(w.heap.size + 2), 0, U⟩ (G a2 nl c2)).setCell ⟨(w.heap.size + 2), 1, U⟩ (E J bt)).setCell ⟨(w.heap.size + 2), 2, U⟩ (E J nx)).setCell ⟨(w.heap.size + 2), 3, U⟩ (G a3 n3 c3))) := by rw [HP.out]; exact ⟨p1, zm.nil _ _, p2⟩
  clear p1 p2 p3;go_wp2_with fail
  clear r0 r1 r2 r3 t0 t1 t2 t3 y0 y1 y2 y3 lo lr;generalize ((((D.setCell ⟨(w.heap.size + 2), 0, U⟩ (G a2 nl c2)).setCell ⟨(w.heap.size + 2), 1, U⟩ (E J bt)).setCell ⟨(w.heap.size + 2), 2, U⟩ (E J nx)).setCell ⟨(w.heap.size + 2), 3, U⟩ (G a3 n3 c3)) = Z9 at *;refine bodyPost_ret (v := .tuple #[.agg #[G a2 nl c2, E J bt, E J nx, G a3 n3 c3], (G U 0 0)]) ?_ rfl ⟨_, _, rfl, HF.out.1, HF.out.2.1, HF.out.2.2⟩;simp [results, Tryz.results24, go_sem, e0, e1, e2, e3]
end Go.Proofs.YtpcnlifmkhagkaaGreat
