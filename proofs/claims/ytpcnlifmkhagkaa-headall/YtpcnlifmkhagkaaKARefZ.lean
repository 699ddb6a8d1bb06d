import Derived.Test.YtpcnlifmkhagkaaKAJ13
set_option maxRecDepth 20000
set_option maxHeartbeats 20000000
namespace Go.Proofs.Ytpcnlifmkhagkaa
open Go.RowKit
open Go.Value renaming slice → G, int → E
open Go.IntKind renaming i64 → J
open _root_.Option renaming none → U
open Go.Obj renaming cells → T
open Go.RowKit renaming Hid → Q, Below → Z
open _root_.Nat renaming le_refl → kaa
attribute [local go_sem ↓] Go.wp_at_zero Go.wp_at_succ
def zbe (c : Nat) : List Value := [E .u8 (c : Int)]
theorem lenB (c : Nat) : (zbe c).length = 1 := rfl
theorem oneB (c : Nat) : ∀ u ∈ zbe c, u.oneCell' = true := by intro u hu; simp [zbe] at hu; rcases hu with rfl; rfl
theorem zkz (l : List Nat) : zx zbe l = zdb l := by
 induction l with
 | nil => rfl
 | cons c t ih =>
  show zbe c ++ zx zbe t = _
  rw [ih];rfl
theorem zbp.ownB {w : World} {base : Nat} {v : Value} {l : List Nat} (h : zbp w base v l) : zd 5 1 zbe w base v l := by
 unfold zd
 rw [zkz];exact h
theorem zd.ofB {w : World} {base : Nat} {v : Value} {l : List Nat} (h : zd 5 1 zbe w base v l) : zbp w base v l := by
 unfold zd at h
 rw [zkz] at h;exact h
theorem zhi {w : World} {a : Option Addr} {l : List Nat} (h : zdj w a l) : zk 1 zbe w a l := by
 rcases h with rfl | ⟨b, o, rfl, hlt, hc⟩
 ·exact Or.inl rfl
 ·refine Or.inr ⟨b, o, rfl, hlt, fun i hi j u hu => ?_⟩
  match j, hu with
  | 0, hu => rw [← hu, Nat.mul_one, Nat.add_zero]; exact hc i hi
  | j + 1, hu => simp [zbe] at hu
theorem zd.keptNew {α : Type} {e : TypeId} {size : Nat} {enc : α → List Value} {w w' : World} {base : Nat} {v : Value} {xs : List α} (h : zd e size enc w base v xs) {row : Option Nat} (hg : w.grownBy w' row) (hr : ∀ k, row = some k → k < base) : zd e size enc w' base v xs := by
 refine h.kept hg ?_
 cases hv : v.ownBlock with
 | none => exact Or.inl rfl
 | some g =>
  refine Or.inr (fun hr' => ?_);have h1 := hr g hr'.symm;have h2 := h.base g hv;omega
theorem own1 {w : World} {base : Nat} (hb : base ≤ w.heap.size) (k : Int) : zd 5 1 zbe (w.alloc (T #[E .u8 (k % 256)] 5)) base (G (some ⟨w.heap.size, 0, U⟩) 1 1) [(k % 256).toNat] := by
 have := zbp.fresh w (base := base) (n := 1) hb [(k % 256).toNat] rfl (by simp) #[E .u8 (k % 256)] (by
  have e : (((k % 256).toNat : Nat) : Int) = k % 256 := by omega
  simp only [zdb, List.map_cons, List.map_nil, e])
 exact this.ownB
theorem zoo (k d h : Int) (a : Option Addr) (l : List P3) (cap n : Nat) (w : World) (hn : n = l.length) (hl : l.length ≤ 1000000) (hp : zal w a l)
  (hd : -9223372036854775808 ≤ d ∧ d ≤ 9223372036854775807) (hh : -9223372036854775808 ≤ h ∧ h ≤ 9223372036854775807) (hs : Nums l) :
  Calls Try.prog 66 #[.agg #[E J k, E J d, E J h, G a n cap]] w fun e w' => ∃ v, e = .returned v ∧ zbp w' w.heap.size v (zau (k, d, h, l)) ∧ Z w.heap.size w w' := by
 have hbyt := body_byt2 (m := (k, d, h, l)) hd hh hl hs;obtain ⟨hd1, hd2⟩ := hd;obtain ⟨hh1, hh2⟩ := hh;have hn1 : -9223372036854775808 ≤ ((n : Nat) : Int) := by omega
 have hn2 : ((n : Nat) : Int) ≤ 9223372036854775807 := by omega
 have HN := zD hn hp hs hbyt;have hnl : n ≤ 1000000 := by omega
 clear hn hl hp hs hbyt;have hb0 := zi w (T #[E J k, E J d, E J h, G a n cap] 43);have hN0 : Blk (w.alloc (T #[E J k, E J d, E J h, G a n cap] 43)) w.heap.size #[E J k, E J d, E J h, G a n cap] 43 := Blk.new _ _ _;go_enter Try.func66, Try.ntmps66
 go_upto_region 1 with fail
 generalize w.alloc (T #[E J k, E J d, E J h, G a n cap] 43) = V at *;have HV := zB hb0 hN0;have HK : Q (∀ w', Z V.heap.size V w' → (w'.cell? ⟨w.heap.size, 0, U⟩ = some (E J k) ∧ w'.cell? ⟨w.heap.size, 1, U⟩ = some (E J d) ∧ w'.cell? ⟨w.heap.size, 2, U⟩ = some (E J h) ∧ w'.cell? ⟨w.heap.size, 3, U⟩ = some (G a n cap))) := fun w' hb => (HV.out.2.below hb HV.out.2.lt).cells4
 have hX0 : Z V.heap.size V V.drew := (Below.refl _ _).drew;have hlt := hN0.lt;have qz : w.heap.size < V.heap.size + 1 := by omega
 have ld := zfv d;have lh := zfv h;have ln := zfv (n : Int);clear hb0 hN0;go_cut [3] (fun s wx => ∃ a3 n3 c3, s = G a3 n3 c3 ∧ Q (zd 5 1 zbe wx V.heap.size (G a3 n3 c3) ([(k % 256).toNat] ++ zap d) ∧ Z V.heap.size V wx))
 case first =>
  go_region_held3 (fun w' => (w'.cell? ⟨w.heap.size, 0, U⟩ = some (E J k) ∧ w'.cell? ⟨w.heap.size, 1, U⟩ = some (E J d) ∧ w'.cell? ⟨w.heap.size, 2, U⟩ = some (E J h) ∧ w'.cell? ⟨w.heap.size, 3, U⟩ = some (G a n cap))) (
   first
   | (with_reducible exact HK.out _ h5)
   | (with_reducible exact HK.out _ hNA)
   | (with_reducible exact HK.out _ hN)
   | (with_reducible exact HK.out _ hXA)
   | (with_reducible exact HK.out _ hX0)
   | (with_reducible exact HK.out _ (Below.refl _ _))
   | exact HK.out _ (hX0.alloc hX0.size _)
   | exact HK.out _ (hN.alloc hNs _)) (
   first
   | (refine zeu lenB oneB Try.underlying95 zgj rfl (by decide) _ (by first | rfl | simp [Region.wanted, yielded]) (.tmp 10) (.tmp 13) rfl V.heap.size _ [(k % 256).toNat] rfl (by first | exact own1 hNs k | exact (own1 hX0.size k).below hbN (kaa _)) aN _ cN (zap d) rfl rfl (by first | exact HRN.out | exact HRN.out.below (zi wN _)) (by unfold maxLen; simp; omega) (by simp; omega) (by first | exact hNs | (simp; omega)) ?_; intro a5 n5 c5 w5 qv hn5 jJ hat5; have h5 : Z V.heap.size V w5 := (by first | exact (hN.alloc hNs _).grown jJ (by simp; omega) (fun k hk => by cases hk; exact hNs) | exact hN.grown jJ hNs (fun k hk => by cases hk; exact kaa _)); have H5 : Q (zd 5 1 zbe w5 V.heap.size (G a5 n5 c5) ([(k % 256).toNat] ++ zap d) ∧ Z V.heap.size V w5) := ⟨qv, h5⟩; clear qv hn5 jJ hat5)
   | (go_at_call 79; refine (zhn d _ hd1 hd2).mono ?_; rintro e wN ⟨vN, rfl, hoN, hbN⟩; obtain ⟨aN, cN, rfl, hatN, -⟩ := hoN.bytes; have hN : Z V.heap.size V wN := (by first | exact hX0.trans (hbN.mono hX0.size) | exact (hX0.alloc hX0.size _).trans (hbN.mono (by simp))); have hNs : V.heap.size ≤ wN.heap.size := hN.size; have HRN : Q (zk 1 zbe wN aN (zap d)) := zhi hatN; clear hoN hatN))
  all_goals
   go_wp2_with fail
   go_meet
   case rel => exact ⟨a5, n5, c5, rfl, H5⟩
 case rest =>
 obtain ⟨a3, n3, c3, rfl, hcut⟩ := hcut;obtain ⟨hO3, hb3⟩ := hcut.out;have HV0 := zA hO3;obtain ⟨pre, HPRE⟩ : ∃ pre, Q (pre = [(k % 256).toNat] ++ zap d) := ⟨_, rfl⟩;rw [← HPRE.out] at HV0;have hpl : pre.length ≤ 11 := by rw [HPRE.out]; simp; omega
 have HB3 := zA hb3;have hbs := hb3.size;clear hcut hO3 hb3 hX0 HK qz;have HK : Q (∀ w', Z V.heap.size wc w' → (w'.cell? ⟨w.heap.size, 0, U⟩ = some (E J k) ∧ w'.cell? ⟨w.heap.size, 1, U⟩ = some (E J d) ∧ w'.cell? ⟨w.heap.size, 2, U⟩ = some (E J h) ∧ w'.cell? ⟨w.heap.size, 3, U⟩ = some (G a n cap))) := fun w' hb => ((HV.out.2.below HB3.out HV.out.2.lt).below hb HV.out.2.lt).cells4
 have hX0 : Z V.heap.size wc wc.drew := (Below.refl _ _).drew;have hX1 : Z wc.heap.size wc wc.drew := (Below.refl _ _).drew;go_upto_region 2 with fail
 generalize wc = V3 at *;go_cut [3] (fun s wx => ∃ a4 n4 c4, s = G a4 n4 c4 ∧ Q (zd 5 1 zbe wx V.heap.size (G a4 n4 c4) (pre ++ zap h ++ zap (n : Int)) ∧ Z V.heap.size V3 wx))
 case first =>
  go_region_held3 (fun w' => (w'.cell? ⟨w.heap.size, 0, U⟩ = some (E J k) ∧ w'.cell? ⟨w.heap.size, 1, U⟩ = some (E J d) ∧ w'.cell? ⟨w.heap.size, 2, U⟩ = some (E J h) ∧ w'.cell? ⟨w.heap.size, 3, U⟩ = some (G a n cap))) (
   first
   | (with_reducible exact HK.out _ h6)
   | (with_reducible exact HK.out _ h5)
   | (with_reducible exact HK.out _ hB)
   | (with_reducible exact HK.out _ hA)
   | (with_reducible exact HK.out _ hX0)
   | (with_reducible exact HK.out _ (Below.refl _ _))) (
   first
   | (refine zeu lenB oneB Try.underlying95 zgj rfl (by decide) _ (by first | rfl | simp [Region.wanted, yielded]) (.tmp 19) (.tmp 23) rfl V.heap.size (G a5 n5 c5) (pre ++ zap h) rfl (by first | exact HO5.out | exact HO5B.out) aB _ cB (zap (n : Int)) rfl rfl (by first | exact HRB5.out | exact HRB.out) (by unfold maxLen; simp; omega) (by simp; omega) (by first | exact h5s | exact hBs) ?_; intro a6 n6 c6 w6 j8 hn6 jk hat6; have h6 : Z V.heap.size V3 w6 := (by first | exact h5.grown jk h5s HO5.out.base | exact hB.grown jk hBs HO5.out.base); have H6 : Q (zd 5 1 zbe w6 V.heap.size (G a6 n6 c6) (pre ++ zap h ++ zap (n : Int)) ∧ Z V.heap.size V3 w6) := ⟨j8, h6⟩; clear j8 hn6 jk hat6)
   | (refine zeu lenB oneB Try.underlying95 zgj rfl (by decide) _ (by first | rfl | simp [Region.wanted, yielded]) (.tmp 15) (.tmp 18) rfl V.heap.size (G a3 n3 c3) pre rfl (by first | exact HVA.out | exact HVB.out) aA _ cA (zap h) rfl rfl (by first | exact HRA.out | exact HRA.out.below hbB) (by unfold maxLen; simp; omega) (by simp; omega) (by first | exact hAs | exact hBs) ?_; intro a5 n5 c5 w5 qv hn5 jJ hat5; have h5 : Z V.heap.size V3 w5 := (by first | exact hA.grown jJ hAs HV0.out.base | exact hB.grown jJ hBs HV0.out.base); have h5s : V.heap.size ≤ w5.heap.size := Nat.le_trans hbs h5.size; have HO5 : Q (zd 5 1 zbe w5 V.heap.size (G a5 n5 c5) (pre ++ zap h)) := qv; (try have HRB5 : Q (zk 1 zbe w5 aB (zap (n : Int))) := (by first | exact ((HOB.out.keptNew jJ (by first | exact fun k hk => (World.ownsRow.lt HV0.out k hk).2 | exact fun k hk => (World.ownsRow.lt HVA.out k hk).2)).at lenB).1 | exact (((HOB.out.below hbA (kaa _)).keptNew jJ (by first | exact fun k hk => (World.ownsRow.lt HV0.out k hk).2 | exact fun k hk => (World.ownsRow.lt HVA.out k hk).2)).at lenB).1)); clear qv hn5 hat5)
   | (go_at_call 79; (with_reducible refine (zhn (n : Int) _ hn1 hn2).mono ?_); rintro e wB ⟨vB, rfl, hoB, hbB⟩; obtain ⟨aB, cB, rfl, hatB, -⟩ := hoB.bytes; have hB : Z V.heap.size V3 wB := (by first | exact h5.trans (hbB.mono h5s) | exact hA.trans (hbB.mono hAs) | exact hX0.trans (hbB.mono hbs)); have hBs : V.heap.size ≤ wB.heap.size := Nat.le_trans hbs hB.size; (try have HVB : Q (zd 5 1 zbe wB V.heap.size (G a3 n3 c3) pre) := (by first | exact HVA.out.below hbB (kaa _) | exact (HV0.out.below hX1 (kaa _)).below hbB (kaa _))); (try have HO5B : Q (zd 5 1 zbe wB V.heap.size (G a5 n5 c5) (pre ++ zap h)) := HO5.out.below hbB (kaa _)); have HOB : Q (zd 5 1 zbe wB _ _ (zap (n : Int))) := hoB.ownB; have HRB : Q (zk 1 zbe wB aB (zap (n : Int))) := zhi hatB; clear hoB hatB)
   | (go_at_call 79; (with_reducible refine (zhn h _ hh1 hh2).mono ?_); rintro e wA ⟨vA, rfl, hoA, hbA⟩; obtain ⟨aA, cA, rfl, hatA, -⟩ := hoA.bytes; have hA : Z V.heap.size V3 wA := (by first | exact hB.trans (hbA.mono hBs) | exact hX0.trans (hbA.mono hbs)); have hAs : V.heap.size ≤ wA.heap.size := Nat.le_trans hbs hA.size; have HVA : Q (zd 5 1 zbe wA V.heap.size (G a3 n3 c3) pre) := (by first | exact HVB.out.below hbA (kaa _) | exact (HV0.out.below hX1 (kaa _)).below hbA (kaa _)); have HRA : Q (zk 1 zbe wA aA (zap h)) := zhi hatA; clear hoA hatA))
  all_goals
   go_wp2_with fail
   go_meet
   case rel => exact ⟨a6, n6, c6, rfl, H6⟩
 case rest =>
 obtain ⟨a4, n4, c4, rfl, hcut⟩ := hcut;have HB4 := zA (HB3.out.trans hcut.out.2);obtain ⟨pre2, HPRE2⟩ : ∃ pre2, Q (pre2 = pre ++ zap h ++ zap (n : Int)) := ⟨_, rfl⟩;have hpl2 : pre2.length ≤ 31 := by rw [HPRE2.out]; simp; omega
 have HBody : Q (zco (k, d, h, l) = pre2 ++ zb2 l) := by show _ = _; rw [HPRE2.out, HPRE.out, HN.out.1]; simp [zco]
 have HO4 : Q (zd 5 1 zbe wc V.heap.size (G a4 n4 c4) pre2) := by rw [HPRE2.out]; exact hcut.out.1
 have hn3 := ((HV.out.2.below HB4.out HV.out.2.lt).cell 3);simp only [List.getElem?_toArray, List.getElem?_cons_zero, List.getElem?_cons_succ] at hn3
 clear hcut hX0 hX1 HK HV0 HB3 hbs ld lh ln HPRE HPRE2 hpl;go_wp2;clear hn3;go_loopw [3, 28] (fun v i w' => ∃ j : Nat, j ≤ n ∧ i = E J j ∧ Q (zd 5 1 zbe w' V.heap.size v (pre2 ++ zb2 (l.take j)) ∧ Z V.heap.size V w')) (fun _ i _ => n - (intOf i).toNat)
 case atStart => exact ⟨0, Nat.zero_le _, rfl, by simpa [zb2] using HO4.out, HB4.out⟩
 case round =>
  clear HO4 HB4;obtain ⟨j, hj, rfl, hH⟩ := hrel;by_cases hlt2 : j < n
  ·have hjl : j < l.length := by have := HN.out.1; omega
   obtain ⟨hO, hbw⟩ := hH.out
   have jw : (pre2 ++ zb2 (l.take j)).length ≤ 20000031 := by
    have h1 := ziu (l.take j);have h2 := List.length_take_le j l;simp; omega
   have HE : Q (pre2 ++ zb2 (l.take (j + 1)) = pre2 ++ zb2 (l.take j) ++ zap l[j].2.1 ++ zap l[j].2.2) := by show _ = _; rw [zpv hjl]; simp
   obtain ⟨⟨g1, g2⟩, g3, g4⟩ := HN.out.2.2.1 _ (List.getElem_mem hjl);rcases (HN.out.2.1.below HV.out.1).below hbw with h0 | ⟨b', o, rfl, hb', hc⟩
   ·rw [h0] at hjl; simp at hjl
   obtain ⟨d0, d1, d2⟩ := hc j hjl;have hsz := hbw.size;clear hc hH;generalize pre2 ++ zb2 (l.take j) = lp at *;generalize l[j] = p at *;clear hjl;obtain ⟨p0, p1, p2⟩ := p;simp only at d0 d1 d2 g1 g2 g3 g4 HE
   obtain ⟨av, nv, cv, rfl⟩ := hO.slice lenB;have HW := zB hO hbw;have hP := zi wr (T #[E J p0, E J p1, E J p2] 49);have hPb : Blk (wr.alloc (T #[E J p0, E J p1, E J p2] 49)) wr.heap.size #[E J p0, E J p1, E J p2] 49 := Blk.new _ _ _;clear hO hbw;go_upto_region 6 with fail
   clear d0 d1 d2;generalize wr.alloc (T #[E J p0, E J p1, E J p2] 49) = zZ at *;have HP0 := zA hPb;have HV0 := zA (HW.out.1.below hP (kaa _));have HQ := zA (HW.out.2.trans (hP.mono hsz));have hbs := HQ.out.size;have hX0 : Z V.heap.size zZ zZ.drew := (Below.refl _ _).drew;have hX1 : Z zZ.heap.size zZ zZ.drew := (Below.refl _ _).drew;have HS0 : Q (zZ.cell? ⟨wr.heap.size, 1, U⟩ = some (E J p1) ∧ zZ.cell? ⟨wr.heap.size, 2, U⟩ = some (E J p2)) := ⟨hPb.cell 1, hPb.cell 2⟩;have HSX : Q (zZ.drew.cell? ⟨wr.heap.size, 1, U⟩ = some (E J p1) ∧ zZ.drew.cell? ⟨wr.heap.size, 2, U⟩ = some (E J p2)) := ⟨(hPb.below hX1 hPb.lt).cell 1, (hPb.below hX1 hPb.lt).cell 2⟩;have hPl := hPb.lt;have lp1 := zfv p1;have lp2 := zfv p2;clear hP hPb
   go_region_held3 (fun w' => (w'.cell? ⟨wr.heap.size, 1, U⟩ = some (E J p1) ∧ w'.cell? ⟨wr.heap.size, 2, U⟩ = some (E J p2))) (
    first
    | (with_reducible exact HS6.out)
    | (with_reducible exact HS5.out)
    | (with_reducible exact HSB.out)
    | (with_reducible exact HSA.out)
    | (with_reducible exact HSX.out)
    | (with_reducible exact HS0.out)) (
    first
    | (refine zeu lenB oneB Try.underlying95 zgj rfl (by decide) _ (by first | rfl | simp [Region.wanted, yielded]) (.tmp 36) (.tmp 39) rfl V.heap.size (G a5 n5 c5) (lp ++ zap p1) rfl (by first | exact HO5.out | exact HO5B.out) aB _ cB (zap p2) rfl rfl (by first | exact HRB5.out | exact HRB.out) (by unfold maxLen; simp; omega) (by simp; omega) (by first | exact h5s | exact hBs) ?_; intro a6 n6 c6 w6 j8 hn6 jk hat6; have h6 : Z V.heap.size zZ w6 := (by first | exact h5.grown jk h5s HO5.out.base | exact hB.grown jk hBs HO5.out.base); have H6 : Q (zd 5 1 zbe w6 V.heap.size (G a6 n6 c6) (lp ++ zap p1 ++ zap p2) ∧ Z V.heap.size zZ w6) := ⟨j8, h6⟩; have HP6 : Q (Blk w6 wr.heap.size #[E J p0, E J p1, E J p2] 49) := (by first | exact HP5.out.keptT jk (HO5.out.grownT (by decide)) | exact HPB.out.keptT jk (HO5B.out.grownT (by decide))); have HS6 : Q (w6.cell? ⟨wr.heap.size, 1, U⟩ = some (E J p1) ∧ w6.cell? ⟨wr.heap.size, 2, U⟩ = some (E J p2)) := ⟨HP6.out.cell 1, HP6.out.cell 2⟩; clear j8 hn6 jk hat6)
    | (refine zeu lenB oneB Try.underlying95 zgj rfl (by decide) _ (by first | rfl | simp [Region.wanted, yielded]) (.tmp 32) (.tmp 35) rfl V.heap.size (G av nv cv) lp rfl (by first | exact HVA.out | exact HVB.out) aA _ cA (zap p1) rfl rfl (by first | exact HRA.out | exact HRA.out.below hbB) (by unfold maxLen; simp; omega) (by simp; omega) (by first | exact hAs | exact hBs) ?_; intro a5 n5 c5 w5 qv hn5 jJ hat5; have h5 : Z V.heap.size zZ w5 := (by first | exact hA.grown jJ hAs HV0.out.base | exact hB.grown jJ hBs HV0.out.base); have h5s : V.heap.size ≤ w5.heap.size := Nat.le_trans hbs h5.size; have HO5 : Q (zd 5 1 zbe w5 V.heap.size (G a5 n5 c5) (lp ++ zap p1)) := qv; (try have HRB5 : Q (zk 1 zbe w5 aB (zap p2)) := (by first | exact ((HOB.out.keptNew jJ (by first | exact fun k hk => (World.ownsRow.lt HV0.out k hk).2 | exact fun k hk => (World.ownsRow.lt HVA.out k hk).2)).at lenB).1 | exact (((HOB.out.below hbA (kaa _)).keptNew jJ (by first | exact fun k hk => (World.ownsRow.lt HV0.out k hk).2 | exact fun k hk => (World.ownsRow.lt HVA.out k hk).2)).at lenB).1)); have HP5 : Q (Blk w5 wr.heap.size #[E J p0, E J p1, E J p2] 49) := (by first | exact HPA.out.keptT jJ (HVA.out.grownT (by decide)) | exact HPB.out.keptT jJ (HVB.out.grownT (by decide))); have HS5 : Q (w5.cell? ⟨wr.heap.size, 1, U⟩ = some (E J p1) ∧ w5.cell? ⟨wr.heap.size, 2, U⟩ = some (E J p2)) := ⟨HP5.out.cell 1, HP5.out.cell 2⟩; clear qv hn5 hat5)
    | (go_at_call 79; (with_reducible refine (zhn p2 _ g3 g4).mono ?_); rintro e wB ⟨vB, rfl, hoB, hbB⟩; obtain ⟨aB, cB, rfl, hatB, -⟩ := hoB.bytes; have hB : Z V.heap.size zZ wB := (by first | exact h5.trans (hbB.mono h5s) | exact hA.trans (hbB.mono hAs) | exact hX0.trans (hbB.mono hbs)); have hBs : V.heap.size ≤ wB.heap.size := Nat.le_trans hbs hB.size; (try have HVB : Q (zd 5 1 zbe wB V.heap.size (G av nv cv) lp) := (by first | exact HVA.out.below hbB (kaa _) | exact (HV0.out.below hX1 (kaa _)).below hbB (kaa _))); (try have HO5B : Q (zd 5 1 zbe wB V.heap.size (G a5 n5 c5) (lp ++ zap p1)) := HO5.out.below hbB (kaa _)); have HOB : Q (zd 5 1 zbe wB _ _ (zap p2)) := hoB.ownB; have HRB : Q (zk 1 zbe wB aB (zap p2)) := zhi hatB; have HPB : Q (Blk wB wr.heap.size #[E J p0, E J p1, E J p2] 49) := (by first | exact HP5.out.below hbB HP5.out.lt | exact HPA.out.below hbB HPA.out.lt | exact (HP0.out.below hX1 HP0.out.lt).below hbB HP0.out.lt); have HSB : Q (wB.cell? ⟨wr.heap.size, 1, U⟩ = some (E J p1) ∧ wB.cell? ⟨wr.heap.size, 2, U⟩ = some (E J p2)) := ⟨HPB.out.cell 1, HPB.out.cell 2⟩; clear hoB hatB)
    | (go_at_call 79; (with_reducible refine (zhn p1 _ g1 g2).mono ?_); rintro e wA ⟨vA, rfl, hoA, hbA⟩; obtain ⟨aA, cA, rfl, hatA, -⟩ := hoA.bytes; have hA : Z V.heap.size zZ wA := (by first | exact hB.trans (hbA.mono hBs) | exact hX0.trans (hbA.mono hbs)); have hAs : V.heap.size ≤ wA.heap.size := Nat.le_trans hbs hA.size; have HVA : Q (zd 5 1 zbe wA V.heap.size (G av nv cv) lp) := (by first | exact HVB.out.below hbA (kaa _) | exact (HV0.out.below hX1 (kaa _)).below hbA (kaa _)); have HRA : Q (zk 1 zbe wA aA (zap p1)) := zhi hatA; have HPA : Q (Blk wA wr.heap.size #[E J p0, E J p1, E J p2] 49) := (by first | exact HPB.out.below hbA HPB.out.lt | exact (HP0.out.below hX1 HP0.out.lt).below hbA HP0.out.lt); have HSA : Q (wA.cell? ⟨wr.heap.size, 1, U⟩ = some (E J p1) ∧ wA.cell? ⟨wr.heap.size, 2, U⟩ = some (E J p2)) := ⟨HPA.out.cell 1, HPA.out.cell 2⟩; clear hoA hatA))
   all_goals
    have HF : Q (zd 5 1 zbe w6 V.heap.size (G a6 n6 c6) (pre2 ++ zb2 (l.take (j + 1))) ∧ Z V.heap.size V w6) := ⟨by rw [HE.out]; exact H6.out.1, HQ.out.trans H6.out.2⟩;clear HV0 HW HQ hX0 hX1 HP0 HS0 HSX H6;go_wp2;go_roundw
    case rel => exact ⟨j + 1, by omega, by go_num, HF⟩
    case measure => simp [intOf]; omega
  ·have hH2 : zd 5 1 zbe wr V.heap.size u3 (zco (k, d, h, l)) ∧ Z V.heap.size V wr := by
    have := hH.out;rwa [List.take_of_length_le (by have := HN.out.1; omega), ← HBody.out] at this
   have hbl : (zco (k, d, h, l)).length ≤ 20000031 := by
    rw [HBody.out];have h1 := ziu l;have := HN.out.1;simp; omega
   obtain ⟨hO, hbw⟩ := hH2;have hO2 := hO.ofB;have hbyt := HN.out.2.2.2;have HT : Q (zau (k, d, h, l) = zco (k, d, h, l) ++ [zce (zco (k, d, h, l)) / 256, zce (zco (k, d, h, l)) % 256]) := rfl;have HVs := zB HV.out.1 HV.out.1.size;have hbsz := hbw.size;clear hH HBody HN hO;generalize zco (k, d, h, l) = body at *;obtain ⟨a', cap', rfl, hat, jZ⟩ := hO2.bytes;have HS := zk3 a' body cap' body.length wr rfl (by omega) hbyt hat;have hslt := zh4 body;generalize zce body = s at *;have HO2 := zB hO2 hbw;clear hat hbyt hO2 hbw;go_wp2_with fail
   refine HS.mono ?_;rintro e w6 ⟨rfl, rfl⟩;clear HS;go_wp2_with (at_builtin; refine zha _ rfl _ _ rfl V.heap.size _ _ rfl (HO2.out.1.below (zi w6 _) (kaa _)) w6.heap.size 2 [s / 256, s % 256] rfl (by simp) rfl (by exact heap_alloc_new w6 _) (by simp; omega) (by simp; omega) ?_; intro g cap2 w7 hown2 j9)
   go_ret;refine ⟨_, rfl, ?_, ?_⟩
   ·rw [HT.out]
    exact zbp.base hown2 HVs.out.2
   ·have hoA := HO2.out.1.below (zi w6 (T (zdb [s / 256, s % 256]).toArray 5)) (kaa _)
    exact HVs.out.1.trans ((HO2.out.2.trans (((zi w6 _).mono hbsz).trans (j9.below hoA (kaa _) (by simp; omega)))).mono HVs.out.2)
end Go.Proofs.Ytpcnlifmkhagkaa
