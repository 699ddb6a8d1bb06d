import Derived.Test.YtpcnlifmkhagkaaGreatKJ22
set_option maxRecDepth 20000
set_option maxHeartbeats 20000000
namespace Go.Proofs.YtpcnlifmkhagkaaGreat
open Go.RowKit
open Value renaming slice → G, int → E
open IntKind renaming i64 → J
open Option renaming none → U
open Go renaming Hid → Q, Below → Z
open World renaming setCell → r
open List renaming mem_singleton → kaa, mem_append → kab
attribute [local go_sem ↓] Go.wp_at_zero Go.wp_at_succ
theorem zim {w : World} {g o : Nat} {X : List Int} (h : zi 1 zn w (some ⟨g, o, U⟩) X) {k : Nat} (hk : k < X.length) : g < w.heap.size ∧ w.cell? ⟨g, o + k, U⟩ = some (E J X[k]) := by
 rcases h with rfl | ⟨b, o', e, hlt, hc⟩
 · simp at hk
 · cases e
  have h0 := hc k hk 0 _ rfl;rw [Nat.mul_one, Nat.add_zero] at h0;exact ⟨hlt, h0⟩
theorem znp (F b : Nat) (hF : zfb F) (p : Int → Bool) (a : Option Addr) (X : List Int) (cap n : Nat) (w : World) (hn : n = X.length) (hl : X.length ≤ 9223372036854775807) (hp : zi 1 zn w a X)
  (hf : ∀ x ∈ X, ∀ w', Z w.heap.size w w' → Calls Tryz.prog F #[E J x, .pointer (some ⟨b, 0, U⟩)] w' fun e w'' => e = .returned (.bool (p x)) ∧ Z w'.heap.size w' w'') :
  Calls Tryz.prog 130 #[G a n cap, .func (.func F) #[] #[.pointer (some ⟨b, 0, U⟩)]] w fun e w' => ∃ jj : Int, e = .returned (E J jj) ∧ IdxP X p jj ∧ Z w.heap.size w w' := by
 have HP := zB hn hp;have HFn := zA hf;have hnl : n ≤ 9223372036854775807 := by omega
 clear hn hp hf;go_enter Tryz.func130, Tryz.ntmps130
 go_wp2;go_loopw [8] (fun i w' => ∃ k : Nat, k ≤ n ∧ i = E J k ∧ Q (∀ x ∈ X.take k, p x = false) ∧ Z w.heap.size w w') (fun i _ => n - (intOf i).toNat)
 case atStart => exact ⟨0, Nat.zero_le _, rfl, (fun x hx => by simp at hx), Below.refl _ _⟩
 case round =>
  obtain ⟨k, hk, rfl, hno, hbw⟩ := hrel;have hsz := hbw.size;by_cases hlt : k < n
  · have hkX : k < X.length := by have := HP.out.1; omega
   have hrow := HP.out.2.below hbw
   obtain ⟨g, o, rfl⟩ : ∃ g o, a = some ⟨g, o, U⟩ := by
    rcases HP.out.2 with h | ⟨g, o, h, _⟩
    · rw [h] at hkX; simp at hkX
    · exact ⟨g, o, h⟩
   obtain ⟨_, d0⟩ := zim hrow hkX;have HI : Q (p X[k] = true → IdxP X p k) := fun h => Or.inr ⟨k, hkX, rfl, h, fun j hj hj' => hno.out _ (List.mem_take_iff_getElem.2 ⟨j, by omega, rfl⟩)⟩
   have HJ : Q (p X[k] = false → ∀ x ∈ X.take (k + 1), p x = false) := fun h x hx => by
    rw [zaw hkX] at hx;rcases kab.1 hx with hx | hx
    · exact hno.out x hx
    · rw [kaa.1 hx]; exact h
   have HC := HFn.out _ (List.getElem_mem hkX) wr hbw;clear hrow hno;generalize X[k] = x at *;generalize p x = pb at *;go_wp2_with fail
   rw [hF.out, Oper.upon_enter];refine HC.mono ?_;rintro e w1 ⟨rfl, hb1⟩;have hB1 := hbw.trans (hb1.mono hsz);clear d0 hb1 HC;cases pb
   · have HJ2 := zA (HJ.out rfl)
    clear HI HJ;go_wp2;go_roundw
    case rel => exact ⟨k + 1, by omega, by go_num, HJ2, hB1⟩
    case measure => simp [intOf]; omega
   · have HI2 : Q _ := HI.out rfl
    clear HI HJ;go_wp2;go_ret;exact ⟨_, rfl, HI2.out, hB1⟩
  · have HF : Q (IdxP X p (-1)) := Or.inl ⟨rfl, fun x hx => hno.out x (by rw [List.take_of_length_le (by have := HP.out.1; omega)]; exact hx)⟩
   clear hno;go_wp2;go_ret;exact ⟨_, rfl, HF.out, hbw⟩
theorem infoI2 (w : World) : (zeroValue 3).run Tryz.prog w = .ok (E J 0) w := by kernel_rfl
theorem zo2 (F b : Nat) (hF : zfb F) (p : Int → Bool) (a : Option Addr) (X : List Int) (cap n base : Nat) (w : World) (hl : X.length ≤ 4398046511104) (hown : za 3 1 zn w base (G a n cap) X)
  (hf : ∀ x ∈ X, ∀ w', w.grownBy w' (Value.ownBlock (G a n cap)) → Calls Tryz.prog F #[E J x, .pointer (some ⟨b, 0, U⟩)] w' fun e w'' => e = .returned (.bool (p x)) ∧ Z w'.heap.size w' w'') :
  Calls Tryz.prog 110 #[G a n cap, .func (.func F) #[] #[.pointer (some ⟨b, 0, U⟩)]] w fun e w' => ∃ n', e = .returned (G a n' cap) ∧ za 3 1 zn w' base (G a n' cap) (X.filter fun x => !p x) ∧ w.grownBy w' (Value.ownBlock (G a n cap)) := by
 obtain ⟨a', cap', hv, hrow, hcap, hmax⟩ := hown.row zah;cases hv;have HC := znp F b hF p a X cap X.length w rfl (by omega) hrow (fun x hx w' hb => hf x hx w' (zez hb));have HO := zC hown hf hmax;have hm63 : (cap : Int) ≤ 9223372036854775807 := by unfold maxLen at hmax; omega
 clear hown hrow hf hmax;generalize hxl : X.length = n at *;have HL := zA hxl;clear hxl;go_enter Tryz.func110, Tryz.ntmps110
 go_wp2_with fail
 refine HC.mono ?_;rintro e w1 ⟨jj, rfl, hidx, hb1⟩;clear HC;rcases hidx with ⟨rfl, hall⟩ | ⟨i0, hi0, rfl, hD, hlow⟩
 · have HF : Q ((X.filter fun x => !p x) = X) := by
   show _ = _
   rw [List.filter_eq_self];intro x hx;rw [hall x hx]; rfl
  clear hall;go_wp2;go_ret;exact ⟨n, rfl, by rw [HF.out]; exact HO.out.1.below hb1 (Nat.le_refl _), zez hb1⟩
 · rw [HL.out] at hi0
  have hi0n := hi0
  obtain ⟨g, ha⟩ : ∃ g, a = some ⟨g, 0, U⟩ := by
   rcases HO.out.1.2 with ⟨hv, h0⟩ | ⟨g, cap', cur, hv, _⟩
   · exfalso; have := HL.out; omega
   · cases hv; exact ⟨g, rfl⟩
  subst ha
  have hK0 : Q ((X.take (i0 + 1)).filter (fun x => !p x) = X.take i0) := by
   show _ = _
   have hx : i0 < X.length := by rw [HL.out]; exact hi0
   rw [zaw hx, List.filter_append]
   have e1 : (X.take i0).filter (fun x => !p x) = X.take i0 := by
    rw [List.filter_eq_self];intro x hx';obtain ⟨j, hj, rfl⟩ := List.mem_take_iff_getElem.1 hx';rw [hlow j (by omega) (by omega)]; rfl
   rw [e1];simp [hD]
  have hne1 : ((i0 : Int) == -1) = false := beq_eq_false_iff_ne.2 (by omega);clear hlow hD hi0;go_wp2_with fail
  go_loopw [5, 6] (fun s5 s6 w' => ∃ (i j : Nat) (K M : List Int), s5 = E J i ∧ s6 = E J j ∧ j ≤ n ∧ i < j ∧ Q (K = (X.take j).filter (fun x => !p x) ∧ K.length = i ∧ K.length + M.length = j) ∧ za 3 1 zn w' base (G (some ⟨g, 0, U⟩) n cap) (K ++ (M ++ X.drop j)) ∧ w.grownBy w' (some g)) (fun _ s6 _ => n - (intOf s6).toNat)
  case atStart =>
   have hx : i0 < X.length := by rw [HL.out]; exact hi0n
   refine ⟨i0, i0 + 1, X.take i0, [X[i0]], rfl, by go_num, by omega, by omega, ⟨hK0.out.symm, by simp; omega, by simp; omega⟩, ?_, zez hb1⟩;rw [List.singleton_append, ← List.drop_eq_getElem_cons hx, List.take_append_drop];exact HO.out.1.below hb1 (Nat.le_refl _)
  case round =>
   obtain ⟨i, j, K, M, rfl, rfl, hj, hij, hKM, hown, hgr⟩ := hrel
   have hlen : Q ((K ++ (M ++ X.drop j)).length = n) := by
    show _ = _
    have := hKM.out.2.2;have := HL.out;simp only [List.length_append, List.length_drop]; omega
   have hrow2 := (hown.at zah).1;have hsz := hgr.size;by_cases hlt : j < n
   · have hjX : j < X.length := by rw [HL.out]; exact hlt
    obtain ⟨hgl, d0⟩ := zim hrow2 (k := j) (by rw [hlen.out]; exact hlt);obtain ⟨_, t0⟩ := zim hrow2 (k := i) (by rw [hlen.out]; omega);have ho' := hown;unfold za at ho'
    rw [hlen.out] at ho';have fz : ∀ q, wr.frozen? ⟨g, q, U⟩ = false := fun q => World.ownsRow.frozenAt ho' q
    have hget : (K ++ (M ++ X.drop j))[j]'(by rw [hlen.out]; exact hlt) = X[j] := by
     have h1 := hKM.out.2.2;rw [List.getElem_append_right (by omega), List.getElem_append_right (by omega)];rw [List.getElem_drop];congr 1
     omega
    rw [hget] at d0;have HS := zB (List.drop_eq_getElem_cons hjX) (zaw hjX);have HC := HO.out.2.1 _ (List.getElem_mem hjX) wr hgr;generalize (K ++ (M ++ X.drop j))[i]'(by rw [hlen.out]; omega) = old at *;clear hget hrow2;generalize X[j] = x at *;simp only [Nat.zero_add] at d0 t0
    have HW := zB hown hgr;have hi2 : (i : Int) < (n : Int) := by omega
    have fi0 := fz i;obtain ⟨pb, hpb⟩ : ∃ pb, Q (p x = pb) := ⟨_, rfl⟩;rw [hpb.out] at HC;clear hown hgr ho' fz;go_wp2_with fail
    rw [hF.out, Oper.upon_enter];refine HC.mono ?_;rintro e w2 ⟨rfl, hb2⟩;obtain ⟨bc, bf⟩ := zc1 hb2;have t0' := (bc g i hgl).trans t0;have f0' := (bf g i hgl).trans fi0;have HO2 := zB (HW.out.1.below hb2 (Nat.le_refl _)) (HW.out.2.trans (zez hb2));have hgl2 := Nat.lt_of_lt_of_le hgl hb2.size;clear bc bf d0 t0 fi0 hb2 HW HC
    cases pb with
    | true =>
     have HN : Q (K = (X.take (j + 1)).filter (fun x => !p x) ∧ K.length = i ∧ K.length + (M ++ [x]).length = j + 1 ∧ K ++ (M ++ X.drop j) = K ++ ((M ++ [x]) ++ X.drop (j + 1))) := by
      refine ⟨?_, hKM.out.2.1, by have := hKM.out.2.2; simp; omega, ?_⟩
      · rw [HS.out.2, List.filter_append, ← hKM.out.1]
       simp [hpb.out]
      · rw [HS.out.1]; simp
     clear t0' f0';go_wp2_with fail
     go_roundw
     case rel => exact ⟨i, j + 1, K, M ++ [x], rfl, by go_num, by omega, by omega, ⟨HN.out.1, HN.out.2.1, HN.out.2.2.1⟩, by rw [← HN.out.2.2.2]; exact HO2.out.1, HO2.out.2⟩
     case measure => simp [intOf]; omega
    | false =>
     obtain ⟨m, M', hM⟩ : ∃ m M', M = m :: M' := by
      cases M with
      | nil => exfalso; have h1 := hKM.out.2.2; have h2 := hKM.out.2.1; simp at h1; omega
      | cons m M' => exact ⟨m, M', rfl⟩
     have HN : Q (K ++ [x] = (X.take (j + 1)).filter (fun x => !p x) ∧ (K ++ [x]).length = i + 1 ∧ (K ++ [x]).length + (M' ++ [x]).length = j + 1 ∧ (K ++ (M ++ X.drop j)).set i x = (K ++ [x]) ++ ((M' ++ [x]) ++ X.drop (j + 1))) := by
      refine ⟨?_, by have := hKM.out.2.1; simp; omega, by have := hKM.out.2.2; rw [hM] at this; simp at this; simp; omega, ?_⟩
      · rw [HS.out.2, List.filter_append, ← hKM.out.1]
       simp [hpb.out]
      · rw [HS.out.1, hM, List.set_append_right i _ (by have := hKM.out.2.1; omega), hKM.out.2.1, Nat.sub_self]
       simp
     have HP : Q (za 3 1 zn (r w2 ⟨g, i, U⟩ (E J x)) base (G (some ⟨g, 0, U⟩) n cap) ((K ++ [x]) ++ ((M' ++ [x]) ++ X.drop (j + 1)))) := by
      rw [← HN.out.2.2.2];have h := HO2.out.1.putN zah (i := i) (by rw [hlen.out]; omega) x;rw [Nat.mul_one] at h;exact h
     have HG : Q (w.grownBy (r w2 ⟨g, i, U⟩ (E J x)) (some g)) := HO2.out.2.trans (zfd _ _ _ _);clear hM HO2 hlen;go_wp2_with fail
     go_roundw
     case rel => exact ⟨i + 1, j + 1, K ++ [x], M' ++ [x], by go_num, by go_num, by omega, by omega, ⟨HN.out.1, HN.out.2.1, HN.out.2.2.1⟩, HP.out, HG.out⟩
     case measure => simp [intOf]; omega
   · have hjn : j = n := by omega
    subst hjn;have hdr := List.drop_eq_nil_of_le (by rw [HL.out]; exact Nat.le_refl _);have hkf : K = X.filter (fun x => !p x) := by rw [hKM.out.1, List.take_of_length_le (by rw [HL.out]; exact Nat.le_refl _)]
    have ho' := hown;unfold za at ho'
    rw [hlen.out] at ho';have hin := hij
    obtain ⟨vs, hcl⟩ : ∃ vs, ∀ ty, (Builtin.clear_ #[56] ty #[G (some ⟨g, i, U⟩) (j - i) (cap - i)]).run Tryz.prog wr = .ok (.tuple #[]) (wr.setCells g i vs) := by
     have h1 := zh8 wr 56 3 0 _ Tryz.underlying56 infoI2 (by intro u hu; simp [Value.cells] at hu; rcases hu with rfl; rfl) g i (j - i) (cap - i) (by omega) (fun q hq => by
      have hq' : q < (j - i) * 1 := hq;rw [World.ownsRow.cellAt ho' _ (by omega)];have hl2 : (zx zn (K ++ (M ++ X.drop j))).length = j * 1 := by rw [zdh zah, hlen.out]
      rw [List.getElem?_eq_getElem (by rw [hl2]; omega)]
      rfl) (fun q _ => World.ownsRow.frozenAt ho' _)
     obtain ⟨vs, h1⟩ := h1;exact ⟨vs, fun ty => h1⟩
    have HE : Q (za 3 1 zn (wr.setCells g i vs) base (G (some ⟨g, 0, U⟩) i cap) (X.filter fun x => !p x) ∧ w.grownBy (wr.setCells g i vs) (some g)) := by
     refine ⟨?_, hgr.trans (zic g vs _ _)⟩;rw [← hkf];exact za.setCells zah hKM.out.2.1.symm vs _ _ (hown.cut zah hKM.out.2.1.symm) (by rw [hKM.out.2.1]; omega)
    clear ho' hown hgr hrow2 hdr hkf hKM hlen;have hic : (i : Int) ≤ (cap : Int) := by omega
    have hjc : (j : Int) ≤ (cap : Int) := by omega
    go_wp2;go_ret;exact ⟨i, rfl, HE.out.1, HE.out.2⟩
def insI (x : Int) : List Int → List Int
 | [] => [x]
 | y :: t => if x ≤ y then x :: y :: t else y :: insI x t
def zfk : List Int → List Int
 | [] => []
 | x :: t => insI x (zfk t)
theorem zjs (x : Int) : ∀ l : List Int, (insI x l).Perm (x :: l)
 | [] => List.Perm.refl _
 | y :: t => by
  unfold insI
  split
  · exact List.Perm.refl _
  · exact ((zjs x t).cons y).trans (List.Perm.swap x y t)
theorem zmn : ∀ l : List Int, (zfk l).Perm l
 | [] => List.Perm.refl _
 | x :: t => (zjs x _).trans ((zmn t).cons x)
theorem zlw (x : Int) : ∀ l : List Int, l.Pairwise (· ≤ ·) → (insI x l).Pairwise (· ≤ ·)
 | [], _ => List.pairwise_singleton _ _
 | y :: t, h => by
  cases h with
  | cons hy ht =>
   unfold insI
   split
   · rename_i hxy
    refine List.Pairwise.cons (fun z hz => ?_) (List.Pairwise.cons hy ht);rcases List.mem_cons.1 hz with rfl | hz
    · exact hxy
    · exact Int.le_trans hxy (hy z hz)
   · rename_i hxy
    refine List.Pairwise.cons (fun z hz => ?_) (zlw x t ht);rcases List.mem_cons.1 ((zjs x t).mem_iff.1 hz) with rfl | hz
    · omega
    · exact hy z hz
theorem zm3 : ∀ l : List Int, (zfk l).Pairwise (· ≤ ·)
 | [] => List.Pairwise.nil
 | x :: t => zlw x _ (zm3 t)
theorem zqw (l : List Int) : (l.mergeSort fun x y => decide (x ≤ y)) = zfk l := by
 refine List.Perm.eq_of_pairwise (le := fun a b : Int => a ≤ b) (fun a b _ _ h1 h2 => Int.le_antisymm h1 h2) ?_ (zm3 l) ((List.mergeSort_perm _ _).trans (zmn l).symm);have := List.pairwise_mergeSort (le := fun x y : Int => decide (x ≤ y)) (fun a b c h1 h2 => by simp at *; omega) (fun a b => by simp; omega) l;exact this.imp (fun h => by simpa using h)
theorem fin1 : ∀ a ∈ ([0, 1, 2] : List Int), Lib.compact (zfk [a]) = ([0, 1, 2] : List Int).filter fun n => decide (n ∈ [a]) := by decide +kernel
theorem fin2 : ∀ a ∈ ([0, 1, 2] : List Int), ∀ b ∈ ([0, 1, 2] : List Int), Lib.compact (zfk [a, b]) = ([0, 1, 2] : List Int).filter fun n => decide (n ∈ [a, b]) := by decide +kernel
theorem fin3 : ∀ a ∈ ([0, 1, 2] : List Int), ∀ b ∈ ([0, 1, 2] : List Int), ∀ c ∈ ([0, 1, 2] : List Int), Lib.compact (zfk [a, b, c]) = ([0, 1, 2] : List Int).filter fun n => decide (n ∈ [a, b, c]) := by decide +kernel
theorem fin4 : ∀ a ∈ ([0, 1, 2] : List Int), ∀ b ∈ ([0, 1, 2] : List Int), ∀ c ∈ ([0, 1, 2] : List Int), ∀ d ∈ ([0, 1, 2] : List Int), Lib.compact (zfk [a, b, c, d]) = ([0, 1, 2] : List Int).filter fun n => decide (n ∈ [a, b, c, d]) := by decide +kernel
theorem fin_all (ms : List Int) (h1 : 1 ≤ ms.length) (h4 : ms.length ≤ 4) (h : ∀ m ∈ ms, m ∈ ([0, 1, 2] : List Int)) : Lib.compact (zfk ms) = ([0, 1, 2] : List Int).filter fun n => decide (n ∈ ms) := by
 match ms, h1, h4, h with
 | [a], _, _, h => exact fin1 a (h a (by simp))
 | [a, b], _, _, h => exact fin2 a (h a (by simp)) b (h b (by simp))
 | [a, b, c], _, _, h => exact fin3 a (h a (by simp)) b (h b (by simp)) c (h c (by simp))
 | [a, b, c, d], _, _, h => exact fin4 a (h a (by simp)) b (h b (by simp)) c (h c (by simp)) d (h d (by simp))
theorem ofB_pos (l : List P3) (n : Int) : 0 < (ofB l n).length ↔ n ∈ l.map (·.1) := by
 rw [List.length_pos_iff_exists_mem];simp only [ofB, List.mem_filter, decide_eq_true_eq, List.mem_map]
theorem zof {l : List P3} (h1 : 1 ≤ l.length) (h4 : l.length ≤ 4) (h : ∀ p ∈ l, inB p 3 = true) : zhc l = zdx l 3 := by
 unfold zhc sortB zdx
 rw [zqw, fin_all (l.map (·.1)) (by simpa using h1) (by simpa using h4) ?_]
 · refine List.filter_congr (fun n hn => ?_)
  have : n < 3 := by simp at hn; omega
  simp only [this, ofB_pos, true_and]
 · intro m hm
  obtain ⟨p, hp, rfl⟩ := List.mem_map.1 hm;have := h p hp;simp only [inB, decide_eq_true_eq] at this
  simp; omega
def zdw (W : WW) (k d : Int) : Prop := zab (zd (W.at k)).2.1 d = true
def dnW (W : WW) (k d : Int) : Prop := inI (zd (W.at k)).2.2 d = true
def undW (W : WW) (d : Int) : Prop := ∃ o ∈ W.hd.opn, o.1 = d ∧ o.2.2.1 = false
def zds (W : WW) (d : Int) : Prop := ∃ o ∈ W.hd.opn, o.1 = d
def zbb (W : WW) (d : Int) : Prop := ∃ x ∈ zan W.hd.log, x.1 = d
def za4 (W : WW) : Int := 64 * W.hd.boot + W.hd.next
structure zbo (n : Nat) (P : Int → List P3) (W : WW) (m : Q4) : Prop where
 right : za9 m.1 m.2.1 m.2.2.1 m.2.2.2 = 0
 here : m.2.2.1 < n
 old : m.2.1 < za4 W
 prep : m.1 = 1 → m.2.2.2 = ofB (P m.2.1) m.2.2.1 ∧ m.2.2.1 ∈ zr (P m.2.1)
 yes : m.1 = 2 → undW W m.2.1 → zdw W m.2.2.1 m.2.1
 com : m.1 = 4 → zbb W m.2.1 ∧ m.2.2.1 ∈ zr (P m.2.1)
 abo : m.1 = 5 → ¬ zds W m.2.1 ∧ (zbb W m.2.1 → dnW W m.2.2.1 m.2.1)
 ack : m.1 = 6 → dnW W m.2.2.1 m.2.1
 ask : m.1 = 7 → m.2.2.1 ∈ zr (P m.2.1)
structure zdu (P P' : Int → List P3) (W W' : WW) : Prop where
 num : za4 W ≤ za4 W'
 same : ∀ d, d < za4 W → P' d = P d
 dcd : ∀ d, zbb W d → zbb W' d
 dcd2 : ∀ d, d < za4 W → zbb W' d → ¬ zds W d → zbb W d
 dn : ∀ k d, dnW W k d → dnW W' k d
 und : ∀ d, d < za4 W → undW W' d → undW W d
 opn : ∀ d, d < za4 W → zds W' d → zds W d
 rdyU : ∀ k d, d < za4 W → undW W' d → zdw W k d → zdw W' k d
 rdyD : ∀ k d, zbb W d → zdw W k d → zdw W' k d ∨ dnW W' k d
theorem zbo.mono {n : Nat} {P P' : Int → List P3} {W W' : WW} {m : Q4} (h : zbo n P W m) (M : zdu P P' W W') : zbo n P' W' m := by
 have hs := M.same _ h.old;refine ⟨h.right, h.here, Int.lt_of_lt_of_le h.old M.num, ?_, ?_, ?_, ?_, ?_, ?_⟩
 · intro k; rw [hs]; exact h.prep k
 · intro k hu; exact M.rdyU _ _ h.old hu (h.yes k (M.und _ h.old hu))
 · intro k; rw [hs]; exact ⟨M.dcd _ (h.com k).1, (h.com k).2⟩
 · intro k
  obtain ⟨h1, h2⟩ := h.abo k;exact ⟨fun ho => h1 (M.opn _ h.old ho), fun hd => M.dn _ _ (h2 (M.dcd2 _ h.old hd h1))⟩
 · intro k; exact M.dn _ _ (h.ack k)
 · intro k; rw [hs]; exact h.ask k
structure zgk (n : Nat) (P : Int → List P3) (W : WW) (o : O4) : Prop where
 pos : 0 ≤ o.1
 old : o.1 < za4 W
 parts : o.2.1 = P o.1
 right : zaz o.2.1 n = 0
 nd : o.2.2.2.Nodup
 sub : ∀ k ∈ o.2.2.2, k ∈ zr o.2.1
 less : o.2.2.2.length < (zr o.2.1).length
 dec : o.2.2.1 = true ↔ zbb W o.1
 rdy : o.2.2.1 = false → ∀ k ∈ o.2.2.2, zdw W k o.1
 dn : o.2.2.1 = true → ∀ k ∈ o.2.2.2, dnW W k o.1
structure HouOK (P : Int → List P3) (W : WW) (k : Int) : Prop where
 good : zdv (W.at k)
 old : ∀ x ∈ (zd (W.at k)).2.1, x.1 < za4 W
 parts : ∀ x ∈ (zd (W.at k)).2.1, x.2 = ofB (P x.1) k ∧ k ∈ zr (P x.1)
 nd : (zd (W.at k)).2.2.Nodup
 done : ∀ d ∈ (zd (W.at k)).2.2, zbb W d ∧ k ∈ zr (P d)
 apart : ∀ d ∈ (zd (W.at k)).2.2, zab (zd (W.at k)).2.1 d = false
 sums : (zd (W.at k)).1 = (zd (W.at k)).2.2.foldl (fun s d => doB s (ofB (P d) k)) (0, 0, 0, 0)
structure Inv (n : Nat) (P : Int → List P3) (W : WW) : Prop where
 n3 : n ≤ 3
 len : W.hs.length = n
 boot1 : 1 ≤ W.hd.boot
 boot20 : W.hd.boot ≤ 20
 next0 : 0 ≤ W.hd.next
 next64 : W.hd.next ≤ 64
 bootL : W.hd.boot = (zaa W.hd.log).1
 small : W.net.length ≤ 24
 few : W.hd.opn.length ≤ 12
 apart : (W.hd.opn.map (·.1)).Nodup
 opn : ∀ o ∈ W.hd.opn, zgk n P W o
 dec : ∀ x ∈ zan W.hd.log, 0 ≤ x.1 ∧ x.1 < za4 W ∧ x.2 = P x.1 ∧ zaz x.2 n = 0
 decNd : ((zan W.hd.log).map (·.1)).Nodup
 dr : ∀ x ∈ zan W.hd.log, ∀ k ∈ zr x.2, zdw W k x.1 ∨ dnW W k x.1
 en : ∀ x ∈ zan W.hd.log, ¬ zds W x.1 → ∀ k ∈ zr x.2, dnW W k x.1
 hl : ∀ d, (∃ x ∈ (zaa W.hd.log).2, x.1 = d) ↔ ∃ o ∈ W.hd.opn, o.1 = d ∧ o.2.2.1 = true
 hlNd : ((zaa W.hd.log).2.map (·.1)).Nodup
 hlIn : ∀ x ∈ (zaa W.hd.log).2, x ∈ zan W.hd.log
 net : ∀ m ∈ W.net, zbo n P W m
 hou : ∀ k : Int, 0 ≤ k → k < n → HouOK P W k
theorem zf4 {n : Nat} {P : Int → List P3} {W : WW} (I : Inv n P W) : za4 W ≤ 1344 := by
 have h1 := I.boot20;have h2 := I.next64;unfold za4
 omega
theorem und_not {n : Nat} {P : Int → List P3} {W : WW} (I : Inv n P W) {d : Int} (h : undW W d) : ¬ zbb W d := by
 obtain ⟨o, ho, rfl, hd⟩ := h;intro hc;have := (I.opn o ho).dec.2 hc;rw [hd] at this;cases this
theorem zly {α : Type} : ∀ {l : List α} {f : α → Int}, (l.map f).Nodup → ∀ x ∈ l, ∀ y ∈ l, f x = f y → x = y
 | [], _, _, x, hx => by cases hx
 | a :: t, f, h, x, hx => by
  intro y hy e;rw [List.map_cons, List.nodup_cons] at h;rcases List.mem_cons.1 hx with ex | hx
  · rcases List.mem_cons.1 hy with ey | hy
   · rw [ex, ey]
   · exact absurd (by rw [← ex, e]; exact List.mem_map.2 ⟨y, hy, rfl⟩) h.1
  · rcases List.mem_cons.1 hy with ey | hy
   · exact absurd (by rw [← ey, ← e]; exact List.mem_map.2 ⟨x, hx, rfl⟩) h.1
   · exact zly h.2 x hx y hy e
theorem Inv.netOf {n : Nat} {P : Int → List P3} {W : WW} (I : Inv n P W) {net : List Q4} (hl : net.length ≤ 24) (hm : ∀ m ∈ net, zbo n P W m) : Inv n P { W with net := net } :=
 ⟨I.n3, I.len, I.boot1, I.boot20, I.next0, I.next64, I.bootL, hl, I.few, I.apart, fun o ho => ⟨(I.opn o ho).pos, (I.opn o ho).old, (I.opn o ho).parts, (I.opn o ho).right, (I.opn o ho).nd, (I.opn o ho).sub, (I.opn o ho).less, (I.opn o ho).dec, (I.opn o ho).rdy, (I.opn o ho).dn⟩, I.dec, I.decNd, I.dr, I.en, I.hl, I.hlNd, I.hlIn,
  fun m hm' => ⟨(hm m hm').right, (hm m hm').here, (hm m hm').old, (hm m hm').prep, (hm m hm').yes, (hm m hm').com, (hm m hm').abo, (hm m hm').ack, (hm m hm').ask⟩,
  fun k h0 hk => ⟨(I.hou k h0 hk).good, (I.hou k h0 hk).old, (I.hou k h0 hk).parts, (I.hou k h0 hk).nd, (I.hou k h0 hk).done, (I.hou k h0 hk).apart, (I.hou k h0 hk).sums⟩⟩
theorem sendB_len {net ms : List Q4} (h : net.length ≤ 24) : (zbr net ms).length ≤ 24 := by
 unfold zbr
 rw [List.length_append, List.length_take];omega
theorem mem_sendB {net ms : List Q4} {m : Q4} (h : m ∈ zbr net ms) : m ∈ net ∨ m ∈ ms := by
 unfold zbr at h
 rcases kab.1 h with h | h
 · exact Or.inl h
 · exact Or.inr (List.mem_of_mem_take h)
theorem Inv.send {n : Nat} {P : Int → List P3} {W : WW} (I : Inv n P W) {ms : List Q4} (hm : ∀ m ∈ ms, zbo n P W m) : Inv n P { W with net := zbr W.net ms } :=
 I.netOf (sendB_len I.small) (fun m h => (mem_sendB h).elim (I.net m) (hm m))
def WW.put (W : WW) (k : Int) (L : List R3) : WW := { W with hs := W.hs.set k.toNat L }
theorem at_put {W : WW} {k : Int} (h0 : 0 ≤ k) (hk : k < W.hs.length) (L : List R3) (j : Int) (hj : 0 ≤ j) : (W.put k L).at j = if j = k then L else W.at j := by
 unfold WW.put WW.at
 simp only [List.getD_eq_getElem?_getD]
 by_cases e : j = k
 · subst e
  rw [if_pos rfl, List.getElem?_set_self (by omega)];rfl
 · rw [if_neg e, List.getElem?_set_ne (by omega)]
theorem zmd (W : WW) (k : Int) (hk : k.toNat < W.hs.length) : W.put k (W.at k) = W := by
 unfold WW.put WW.at
 have e : W.hs.set k.toNat (W.hs.getD k.toNat []) = W.hs := by
  rw [List.getD_eq_getElem?_getD, List.getElem?_eq_getElem hk];simp
 rw [e]
theorem Inv.put {n : Nat} {P : Int → List P3} {W : WW} (I : Inv n P W) {k : Int} (h0 : 0 ≤ k) (hk : k < n) {L : List R3} (M : zdu P P W (W.put k L)) (H : HouOK P (W.put k L) k) : Inv n P (W.put k L) := by
 have hlen : (W.put k L).hs.length = n := by show (W.hs.set _ _).length = n; rw [List.length_set]; exact I.len
 have hkl : k < (W.hs.length : Int) := by rw [I.len]; exact hk
 refine ⟨I.n3, hlen, I.boot1, I.boot20, I.next0, I.next64, I.bootL, I.small, I.few, I.apart, ?_, I.dec, I.decNd, ?_, ?_, I.hl, I.hlNd, I.hlIn, fun m hm => (I.net m hm).mono M, ?_⟩
 · intro o ho
  have O := I.opn o ho;exact ⟨O.pos, O.old, O.parts, O.right, O.nd, O.sub, O.less, O.dec, fun hd j hj => M.rdyU _ _ O.old ⟨o, ho, rfl, hd⟩ (O.rdy hd j hj), fun hd j hj => M.dn _ _ (O.dn hd j hj)⟩
 · intro x hx j hj
  rcases I.dr x hx j hj with h | h
  · exact M.rdyD _ _ ⟨x, hx, rfl⟩ h
  · exact Or.inr (M.dn _ _ h)
 · intro x hx hn j hj
  exact M.dn _ _ (I.en x hx hn j hj)
 · intro j hj0 hjn
  by_cases e : j = k
  · subst e; exact H
  · have zY := I.hou j hj0 hjn
   have ea : (W.put k L).at j = W.at j := by rw [at_put h0 hkl L j hj0, if_neg e]
   exact ⟨by rw [ea]; exact zY.good, by rw [ea]; exact zY.old, by rw [ea]; exact zY.parts, by rw [ea]; exact zY.nd, by rw [ea]; exact zY.done, by rw [ea]; exact zY.apart, by rw [ea]; exact zY.sums⟩
theorem zi8 {l : List P3} {k : Int} : k ∈ zr l ↔ (k = 0 ∨ k = 1 ∨ k = 2) ∧ 0 < (ofB l k).length := by
 unfold zr
 rw [List.mem_filter];simp
theorem zgh {W : WW} {k : Int} (hk : k.toNat < W.hs.length) (L : List R3) (j : Int) : (W.put k L).at j = if j.toNat = k.toNat then L else W.at j := by
 unfold WW.put WW.at
 simp only [List.getD_eq_getElem?_getD]
 by_cases e : j.toNat = k.toNat
 · rw [if_pos e, e, List.getElem?_set_self hk]
  rfl
 · rw [if_neg e, List.getElem?_set_ne (fun h => e h.symm)]
theorem at_eq {W : WW} {j k : Int} (h : j.toNat = k.toNat) : W.at j = W.at k := by unfold WW.at; rw [h]
theorem ziv {P : Int → List P3} {W : WW} {k : Int} {L : List R3} (hk : k.toNat < W.hs.length) (hd : ∀ e, inI (zd (W.at k)).2.2 e = true → inI (zd L).2.2 e = true)
  (hu : ∀ e, undW W e → zab (zd (W.at k)).2.1 e = true → zab (zd L).2.1 e = true) (hc : ∀ e, zbb W e → zab (zd (W.at k)).2.1 e = true → zab (zd L).2.1 e = true ∨ inI (zd L).2.2 e = true) : zdu P P W (W.put k L) := by
 refine ⟨Int.le_refl _, fun _ _ => rfl, fun _ h => h, fun _ _ h _ => h, ?_, fun _ _ h => h, fun _ _ h => h, ?_, ?_⟩
 · intro j e h
  unfold dnW at h ⊢
  rw [zgh hk];split
  · rename_i hj; rw [at_eq hj] at h; exact hd e h
  · exact h
 · intro j e _ hx h
  unfold zdw at h ⊢
  rw [zgh hk];split
  · rename_i hj; rw [at_eq hj] at h; exact hu e hx h
  · exact h
 · intro j e hx h
  unfold zdw at h ⊢
  unfold dnW
  rw [zgh hk];split
  · rename_i hj; rw [at_eq hj] at h; exact hc e hx h
  · exact Or.inl h
theorem zc9 {l : List Int} {d : Int} : inI l d = true ↔ d ∈ l := by
 unfold inI
 rw [List.any_eq_true];constructor
 · rintro ⟨x, hx, e⟩; rw [← of_decide_eq_true e]; exact hx
 · intro h; exact ⟨d, h, by simp⟩
theorem hasD_mem {D : List D2} {d : Int} : zab D d = true ↔ ∃ x ∈ D, x.1 = d := by
 unfold zab
 rw [List.any_eq_true];simp only [decide_eq_true_eq]
theorem firstP_in {D : List D2} {d : Int} (h : zab D d = true) : (d, zcg D d) ∈ D := by
 obtain ⟨x, hx, e, hp⟩ := zjm h;rw [hp, ← e];exact hx
theorem Inv.hear {n : Nat} {P : Int → List P3} {W : WW} (I : Inv n P W) {m : Q4} (hm : zbo n P W m) (hkd : m.1 = 1 ∨ m.1 = 4 ∨ m.1 = 5) :
  Inv n P (W.put m.2.2.1 (zq (W.at m.2.2.1) m.1 m.2.1 m.2.2.2)) ∧ ∀ q ∈ zav (W.at m.2.2.1) m.2.2.1 m.1 m.2.1 m.2.2.2, zbo n P (W.put m.2.2.1 (zq (W.at m.2.2.1) m.1 m.2.1 m.2.2.2)) q := by
 obtain ⟨kd, d, k, l⟩ := m;simp only at hkd ⊢
 have hr := hm.right;have hold := hm.old;have hhere := hm.here;have hprep := hm.prep;have hcom := hm.com;have habo := hm.abo;simp only at hr hold hhere hprep hcom habo
 obtain ⟨hd0, hd1, hk1, hk7, hl0, hl1⟩ := zil hr
 have hk0 : 0 ≤ k := by
  unfold za9 at hr
  split at hr
  · cases hr
  · split at hr
   · cases hr
   · omega
 have hk2 : k ≤ 2 := by have := I.n3; omega
 have hkl : k.toNat < W.hs.length := by rw [I.len]; omega
 have zY := I.hou k hk0 hhere;have hgood := zY.good.hear hr;have hself : ∀ L, (W.put k L).at k = L := fun L => by rw [zgh hkl, if_pos rfl]
 rcases zjz (zd (W.at k)) kd d l with h | ⟨rfl, hv, hn, h⟩ | ⟨rfl, hn, h⟩ | ⟨rfl, hn, h⟩
 · -- nothing is noted
  rw [ze4 h, zmd W k hkl];refine ⟨I, fun q hq => ?_⟩;unfold zav at hq
  obtain ⟨s, hs, rfl⟩ := List.mem_map.1 hq;unfold zdd at hs
  split at hs
  · rename_i hk
   subst hk;split at hs
   · cases hs
   · split at hs
    · rename_i hv
     simp at hs
     subst hs
     have hrd : zab (zd (W.at k)).2.1 d = true := by
      cases hc : zab (zd (W.at k)).2.1 d
      · unfold za5 at h
       rw [if_pos rfl, if_pos ⟨hv, hc⟩] at h;cases h
      · rfl
     exact ⟨by unfold za9; simp; omega, hhere, hold, fun h => absurd h (by simp), fun _ _ => hrd, fun h => absurd h (by simp), fun h => absurd h (by simp), fun h => absurd h (by simp), fun h => absurd h (by simp)⟩
    · simp at hs
     subst hs;exact ⟨by unfold za9; simp; omega, hhere, hold, fun h => absurd h (by simp), fun h => absurd h (by simp), fun h => absurd h (by simp), fun h => absurd h (by simp), fun h => absurd h (by simp), fun h => absurd h (by simp)⟩
  · split at hs
   · rename_i hk
    subst hk;rw [ze4 h] at hs;split at hs
    · rename_i hi
     simp at hs
     subst hs;exact ⟨by unfold za9; simp; omega, hhere, hold, fun h => absurd h (by simp), fun h => absurd h (by simp), fun h => absurd h (by simp), fun h => absurd h (by simp), fun _ => hi, fun h => absurd h (by simp)⟩
    · cases hs
   · cases hs
 · -- ready
  have hM : zav (W.at k) k 1 d l = [(2, d, k, [])] := by
   unfold zav zdd
   rw [if_pos rfl, hv, if_neg (by decide), if_pos rfl];rfl
  rw [hM];have hL := zdz h;rw [hL] at hgood ⊢
  have hB : zd (W.at k ++ [(1, d, l)]) = ((zd (W.at k)).1, (zd (W.at k)).2.1 ++ [(d, l)], (zd (W.at k)).2.2) := by rw [ze2, hstep1 hn]
  have hnd := (zjj hv).1
  have M : zdu P P W (W.put k (W.at k ++ [(1, d, l)])) := by
   refine ziv hkl ?_ ?_ ?_
   · intro e he; rw [hB]; exact he
   · intro e _ he; rw [hB]; show zab (_ ++ [(d, l)]) e = true; rw [zhg, he]; rfl
   · intro e _ he; left; rw [hB]; show zab (_ ++ [(d, l)]) e = true; rw [zhg, he]; rfl
  have H : HouOK P (W.put k (W.at k ++ [(1, d, l)])) k := by
   refine ⟨by rw [hself]; exact hgood, ?_, ?_, ?_, ?_, ?_, ?_⟩
   · rw [hself, hB]
    intro x hx;rcases kab.1 hx with hx | hx
    · exact zY.old x hx
    · rw [kaa.1 hx]; exact hold
   · rw [hself, hB]
    intro x hx;rcases kab.1 hx with hx | hx
    · exact zY.parts x hx
    · rw [kaa.1 hx]; exact hprep rfl
   · rw [hself, hB]; exact zY.nd
   · rw [hself, hB]; exact zY.done
   · rw [hself, hB]
    intro e he;show zab (_ ++ [(d, l)]) e = false
    rw [zhg, zY.apart e he, Bool.false_or];refine decide_eq_false (fun e' => ?_);subst e';rw [zc9.2 he] at hnd;cases hnd
   · rw [hself, hB]; exact zY.sums
  refine ⟨I.put hk0 hhere M H, fun q hq => ?_⟩;rw [kaa.1 hq];exact ⟨by unfold za9; simp; omega, hhere, hold, fun h => absurd h (by simp), fun _ _ => by unfold zdw; rw [hself, hB]; show zab (_ ++ [(d, l)]) d = true; rw [zhg]; simp, fun h => absurd h (by simp), fun h => absurd h (by simp), fun h => absurd h (by simp), fun h => absurd h (by simp)⟩
 · -- done
  have hL := zdz h;have hB : zd (W.at k ++ [(2, d, [])]) = (doB (zd (W.at k)).1 (zcg (zd (W.at k)).2.1 d), zal (zd (W.at k)).2.1 d, (zd (W.at k)).2.2 ++ [d]) := by rw [ze2, hstep2 hn]
  have hin : inI (zd (W.at k ++ [(2, d, [])])).2.2 d = true := by rw [hB]; show inI (_ ++ [d]) d = true; rw [zha]; simp
  have hM : zav (W.at k) k 4 d l = [(6, d, k, [])] := by
   unfold zav zdd
   rw [if_neg (by decide), if_pos rfl, hL, if_pos hin];rfl
  rw [hM];rw [hL] at hgood ⊢
  obtain ⟨hc1, hc2⟩ := hcom rfl;have hfp := zY.parts _ (firstP_in hn);simp only at hfp
  have M : zdu P P W (W.put k (W.at k ++ [(2, d, [])])) := by
   refine ziv hkl ?_ ?_ ?_
   · intro e he; rw [hB]; show inI (_ ++ [d]) e = true; rw [zha, he]; rfl
   · intro e hu he
    rw [hB];show zab (zal _ d) e = true
    rw [zgz _ (fun e' => by subst e'; exact und_not I hu hc1)];exact he
   · intro e _ he
    rw [hB];by_cases e' : d = e
    · right; show inI (_ ++ [d]) e = true; rw [zha]; simp [e']
    · left; show zab (zal _ d) e = true; rw [zgz _ e']; exact he
  have hnot : d ∉ (zd (W.at k)).2.2 := fun hd => by
   have := zY.apart d hd;rw [hn] at this;cases this
  have H : HouOK P (W.put k (W.at k ++ [(2, d, [])])) k := by
   refine ⟨by rw [hself]; exact hgood, ?_, ?_, ?_, ?_, ?_, ?_⟩
   · rw [hself, hB]; intro x hx; exact zY.old x (zc0 hx).1
   · rw [hself, hB]; intro x hx; exact zY.parts x (zc0 hx).1
   · rw [hself, hB]
    show ((zd (W.at k)).2.2 ++ [d]).Nodup
    rw [List.nodup_append];refine ⟨zY.nd, by simp, ?_⟩;intro a ha b hb e;rw [kaa.1 hb] at e;exact hnot (e ▸ ha)
   · rw [hself, hB]
    intro e he;rcases kab.1 he with he | he
    · exact zY.done e he
    · rw [kaa.1 he]; exact ⟨hc1, hc2⟩
   · rw [hself, hB]
    intro e he;show zab (zal _ d) e = false
    rcases kab.1 he with he | he
    · have hne : d ≠ e := fun e' => hnot (e' ▸ he)
     rw [zgz _ hne]; exact zY.apart e he
    · rw [kaa.1 he]; exact zkm _ _
   · rw [hself, hB]
    show doB (zd (W.at k)).1 (zcg (zd (W.at k)).2.1 d) = ((zd (W.at k)).2.2 ++ [d]).foldl _ _
    rw [List.foldl_append, ← zY.sums, hfp.1];rfl
  refine ⟨I.put hk0 hhere M H, fun q hq => ?_⟩;rw [kaa.1 hq];exact ⟨by unfold za9; simp; omega, hhere, hold, fun h => absurd h (by simp), fun h => absurd h (by simp), fun h => absurd h (by simp), fun h => absurd h (by simp), fun _ => by unfold dnW; rw [hself]; exact hin, fun h => absurd h (by simp)⟩
 · -- dropped
  have hL := zdz h;have hB : zd (W.at k ++ [(3, d, [])]) = ((zd (W.at k)).1, zal (zd (W.at k)).2.1 d, (zd (W.at k)).2.2) := by rw [ze2, hstep3]
  have hM : zav (W.at k) k 5 d l = [] := by
   unfold zav zdd
   rw [if_neg (by decide), if_neg (by decide)];rfl
  rw [hM];rw [hL] at hgood ⊢
  obtain ⟨ha1, ha2⟩ := habo rfl
  have hnd : ¬ zbb W d := fun hc => by
   have h1 := ha2 hc;have := zY.apart d (zc9.1 h1);rw [hn] at this;cases this
  have M : zdu P P W (W.put k (W.at k ++ [(3, d, [])])) := by
   refine ziv hkl ?_ ?_ ?_
   · intro e he; rw [hB]; exact he
   · intro e hu he
    rw [hB];show zab (zal _ d) e = true
    rw [zgz _ (fun e' => by subst e'; obtain ⟨o, ho, e1, _⟩ := hu; exact ha1 ⟨o, ho, e1⟩)];exact he
   · intro e hc he
    rw [hB];left
    show zab (zal _ d) e = true
    rw [zgz _ (fun e' => by subst e'; exact hnd hc)];exact he
  have H : HouOK P (W.put k (W.at k ++ [(3, d, [])])) k := by
   refine ⟨by rw [hself]; exact hgood, ?_, ?_, ?_, ?_, ?_, ?_⟩
   · rw [hself, hB]; intro x hx; exact zY.old x (zc0 hx).1
   · rw [hself, hB]; intro x hx; exact zY.parts x (zc0 hx).1
   · rw [hself, hB]; exact zY.nd
   · rw [hself, hB]; exact zY.done
   · rw [hself, hB]
    intro e he;show zab (zal _ d) e = false
    by_cases e' : d = e
    · subst e'; exact zkm _ _
    · rw [zgz _ e']; exact zY.apart e he
   · rw [hself, hB]; exact zY.sums
  exact ⟨I.put hk0 hhere M H, fun q hq => by cases hq⟩
end Go.Proofs.YtpcnlifmkhagkaaGreat
