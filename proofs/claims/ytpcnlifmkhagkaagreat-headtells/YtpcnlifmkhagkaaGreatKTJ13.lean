import Derived.Test.YtpcnlifmkhagkaaGreatKTJ12
set_option maxRecDepth 20000
set_option maxHeartbeats 20000000
namespace Go.Proofs.YtpcnlifmkhagkaaGreat
open Go.RowKit
open Go.Value renaming slice → G, int → E
open Go.IntKind renaming i64 → J
open _root_.Option renaming none → U
open Go.Obj renaming cells → T
open Go.RowKit renaming Hid → Q, Below → Z
open _root_.Nat renaming le_refl → kaa
open _root_.List renaming mem_append → kab, take_of_length_le → kac
attribute [local go_sem ↓] Go.wp_at_zero Go.wp_at_succ
def zbb (c : Nat) : List Value := [E .u8 (c : Int)]
theorem lenB (c : Nat) : (zbb c).length = 1 := rfl
theorem oneB (c : Nat) : ∀ u ∈ zbb c, u.oneCell' = true := by intro u hu; simp [zbb] at hu; rcases hu with rfl; rfl
theorem zl6 (l : List Nat) : zx zbb l = zc4 l := by
 induction l with
 | nil => rfl
 | cons c t ih =>
  show zbb c ++ zx zbb t = _
  rw [ih];rfl
theorem zbn.ownB {w : World} {base : Nat} {v : Value} {l : List Nat} (h : zbn w base v l) : za 5 1 zbb w base v l := by
 unfold za
 rw [zl6];exact h
theorem za.ofB {w : World} {base : Nat} {v : Value} {l : List Nat} (h : za 5 1 zbb w base v l) : zbn w base v l := by
 unfold za at h
 rw [zl6] at h;exact h
theorem zhc {w : World} {a : Option Addr} {l : List Nat} (h : zde w a l) : zi 1 zbb w a l := by
 rcases h with rfl | ⟨b, o, rfl, hlt, hc⟩
 ·exact Or.inl rfl
 ·refine Or.inr ⟨b, o, rfl, hlt, fun i hi j u hu => ?_⟩
  match j, hu with
  | 0, hu => rw [← hu, Nat.mul_one, Nat.add_zero]; exact hc i hi
  | j + 1, hu => simp [zbb] at hu
theorem za.keptNew {α : Type} {e : TypeId} {size : Nat} {enc : α → List Value} {w w' : World} {base : Nat} {v : Value} {xs : List α} (h : za e size enc w base v xs) {row : Option Nat} (hg : w.grownBy w' row) (hr : ∀ k, row = some k → k < base) : za e size enc w' base v xs := by
 refine h.kept hg ?_
 cases hv : v.ownBlock with
 | none => exact Or.inl rfl
 | some g =>
  refine Or.inr (fun hr' => ?_);have h1 := hr g hr'.symm;have h2 := h.base g hv;omega
theorem own1 {w : World} {base : Nat} (hb : base ≤ w.heap.size) (k : Int) : za 5 1 zbb (w.alloc (T #[E .u8 (k % 256)] 5)) base (G (some ⟨w.heap.size, 0, U⟩) 1 1) [(k % 256).toNat] := by
 have := zbn.fresh w (base := base) (n := 1) hb [(k % 256).toNat] rfl (by simp) #[E .u8 (k % 256)] (by
  have e : (((k % 256).toNat : Nat) : Int) = k % 256 := by omega
  simp only [zc4, List.map_cons, List.map_nil, e])
 exact this.ownB
theorem zo9 (k d h : Int) (a : Option Addr) (l : List P3) (cap n : Nat) (w : World) (hn : n = l.length) (hl : l.length ≤ 1000000) (hp : zae w a l)
  (hd : -9223372036854775808 ≤ d ∧ d ≤ 9223372036854775807) (hh : -9223372036854775808 ≤ h ∧ h ≤ 9223372036854775807) (hs : Nums l) :
  Calls Tryz.prog 98 #[.agg #[E J k, E J d, E J h, G a n cap]] w fun e w' => ∃ v, e = .returned v ∧ zbn w' w.heap.size v (zas (k, d, h, l)) ∧ Z w.heap.size w w' := by
 have hbyt := body_byt2 (m := (k, d, h, l)) hd hh hl hs;obtain ⟨hd1, hd2⟩ := hd;obtain ⟨hh1, hh2⟩ := hh;have hn1 : -9223372036854775808 ≤ ((n : Nat) : Int) := by omega
 have hn2 : ((n : Nat) : Int) ≤ 9223372036854775807 := by omega
 have HN := zD hn hp hs hbyt;have hnl : n ≤ 1000000 := by omega
 clear hn hl hp hs hbyt;have hb0 := zh w (T #[E J k, E J d, E J h, G a n cap] 25);have hN0 : Blk (w.alloc (T #[E J k, E J d, E J h, G a n cap] 25)) w.heap.size #[E J k, E J d, E J h, G a n cap] 25 := Blk.new _ _ _;go_enter Tryz.func98, Tryz.ntmps98
 go_upto_region 1 with fail
 generalize w.alloc (T #[E J k, E J d, E J h, G a n cap] 25) = V at *;have HV := zB hb0 hN0;have HK : Q (∀ w', Z V.heap.size V w' → (w'.cell? ⟨w.heap.size, 0, U⟩ = some (E J k) ∧ w'.cell? ⟨w.heap.size, 1, U⟩ = some (E J d) ∧ w'.cell? ⟨w.heap.size, 2, U⟩ = some (E J h) ∧ w'.cell? ⟨w.heap.size, 3, U⟩ = some (G a n cap))) := fun w' hb => (HV.out.2.below hb HV.out.2.lt).cells4
 have hX0 : Z V.heap.size V V.drew := (Below.refl _ _).drew;have hlt := hN0.lt;have hlt1 : w.heap.size < V.heap.size + 1 := by omega
 have ld := zfq d;have lh := zfq h;have ln := zfq (n : Int);clear hb0 hN0;go_cut [3] (fun s wx => ∃ a3 n3 c3, s = G a3 n3 c3 ∧ Q (za 5 1 zbb wx V.heap.size (G a3 n3 c3) ([(k % 256).toNat] ++ zam d) ∧ Z V.heap.size V wx))
 case first =>
  go_region_held3 (fun w' => (w'.cell? ⟨w.heap.size, 0, U⟩ = some (E J k) ∧ w'.cell? ⟨w.heap.size, 1, U⟩ = some (E J d) ∧ w'.cell? ⟨w.heap.size, 2, U⟩ = some (E J h) ∧ w'.cell? ⟨w.heap.size, 3, U⟩ = some (G a n cap))) (
   first
   | (with_reducible exact HK.out _ h5)
   | (with_reducible exact HK.out _ hNA)
   | (with_reducible exact HK.out _ hN)
   | (with_reducible exact HK.out _ hXA)
   | (with_reducible exact HK.out _ hX0)
   | (with_reducible exact HK.out _ (Below.refl _ _))
   | exact HK.out _ (hX0.alloc hX0.size _)
   | exact HK.out _ (hN.alloc hNs _)) (
   first
   | (refine zet lenB oneB Tryz.underlying113 zgw rfl (by decide) _ (by first | rfl | simp [Region.wanted, yielded]) (.tmp 10) (.tmp 13) rfl V.heap.size _ [(k % 256).toNat] rfl (by first | exact own1 hNs k | exact (own1 hX0.size k).below hbN (kaa _)) aN _ cN (zam d) rfl rfl (by first | exact HRN.out | exact HRN.out.below (zh wN _)) (by unfold maxLen; simp; omega) (by simp; omega) (by first | exact hNs | (simp; omega)) ?_; intro a5 n5 c5 w5 hown5 hn5 jv hat5; have h5 : Z V.heap.size V w5 := (by first | exact (hN.alloc hNs _).grown jv (by simp; omega) (fun k hk => by cases hk; exact hNs) | exact hN.grown jv hNs (fun k hk => by cases hk; exact kaa _)); have H5 : Q (za 5 1 zbb w5 V.heap.size (G a5 n5 c5) ([(k % 256).toNat] ++ zam d) ∧ Z V.heap.size V w5) := ⟨hown5, h5⟩; clear hown5 hn5 jv hat5)
   | (go_at_call 124; refine (zhh d _ hd1 hd2).mono ?_; rintro e wN ⟨vN, rfl, hoN, hbN⟩; obtain ⟨aN, cN, rfl, hatN, -⟩ := hoN.bytes; have hN : Z V.heap.size V wN := (by first | exact hX0.trans (hbN.mono hX0.size) | exact (hX0.alloc hX0.size _).trans (hbN.mono (by simp))); have hNs : V.heap.size ≤ wN.heap.size := hN.size; have HRN : Q (zi 1 zbb wN aN (zam d)) := zhc hatN; clear hoN hatN))
  all_goals
   go_wp2_with fail
   go_meet
   case rel => exact ⟨a5, n5, c5, rfl, H5⟩
 case rest =>
 obtain ⟨a3, n3, c3, rfl, hcut⟩ := hcut;obtain ⟨hO3, hb3⟩ := hcut.out;have HV0 := zA hO3;obtain ⟨pre, HPRE⟩ : ∃ pre, Q (pre = [(k % 256).toNat] ++ zam d) := ⟨_, rfl⟩;rw [← HPRE.out] at HV0;have hpl : pre.length ≤ 11 := by rw [HPRE.out]; simp; omega
 have HB3 := zA hb3;have hbs := hb3.size;clear hcut hO3 hb3 hX0 HK hlt1;have HK : Q (∀ w', Z V.heap.size wc w' → (w'.cell? ⟨w.heap.size, 0, U⟩ = some (E J k) ∧ w'.cell? ⟨w.heap.size, 1, U⟩ = some (E J d) ∧ w'.cell? ⟨w.heap.size, 2, U⟩ = some (E J h) ∧ w'.cell? ⟨w.heap.size, 3, U⟩ = some (G a n cap))) := fun w' hb => ((HV.out.2.below HB3.out HV.out.2.lt).below hb HV.out.2.lt).cells4
 have hX0 : Z V.heap.size wc wc.drew := (Below.refl _ _).drew;have hX1 : Z wc.heap.size wc wc.drew := (Below.refl _ _).drew;go_upto_region 2 with fail
 generalize wc = V3 at *;go_cut [3] (fun s wx => ∃ a4 n4 c4, s = G a4 n4 c4 ∧ Q (za 5 1 zbb wx V.heap.size (G a4 n4 c4) (pre ++ zam h ++ zam (n : Int)) ∧ Z V.heap.size V3 wx))
 case first =>
  go_region_held3 (fun w' => (w'.cell? ⟨w.heap.size, 0, U⟩ = some (E J k) ∧ w'.cell? ⟨w.heap.size, 1, U⟩ = some (E J d) ∧ w'.cell? ⟨w.heap.size, 2, U⟩ = some (E J h) ∧ w'.cell? ⟨w.heap.size, 3, U⟩ = some (G a n cap))) (
   first
   | (with_reducible exact HK.out _ h6)
   | (with_reducible exact HK.out _ h5)
   | (with_reducible exact HK.out _ hB)
   | (with_reducible exact HK.out _ hA)
   | (with_reducible exact HK.out _ hX0)
   | (with_reducible exact HK.out _ (Below.refl _ _))) (
   first
   | (refine zet lenB oneB Tryz.underlying113 zgw rfl (by decide) _ (by first | rfl | simp [Region.wanted, yielded]) (.tmp 19) (.tmp 23) rfl V.heap.size (G a5 n5 c5) (pre ++ zam h) rfl (by first | exact HO5.out | exact HO5B.out) aB _ cB (zam (n : Int)) rfl rfl (by first | exact HRB5.out | exact HRB.out) (by unfold maxLen; simp; omega) (by simp; omega) (by first | exact h5s | exact hBs) ?_; intro a6 n6 c6 w6 hown6 hn6 jx hat6; have h6 : Z V.heap.size V3 w6 := (by first | exact h5.grown jx h5s HO5.out.base | exact hB.grown jx hBs HO5.out.base); have H6 : Q (za 5 1 zbb w6 V.heap.size (G a6 n6 c6) (pre ++ zam h ++ zam (n : Int)) ∧ Z V.heap.size V3 w6) := ⟨hown6, h6⟩; clear hown6 hn6 jx hat6)
   | (refine zet lenB oneB Tryz.underlying113 zgw rfl (by decide) _ (by first | rfl | simp [Region.wanted, yielded]) (.tmp 15) (.tmp 18) rfl V.heap.size (G a3 n3 c3) pre rfl (by first | exact HVA.out | exact HVB.out) aA _ cA (zam h) rfl rfl (by first | exact HRA.out | exact HRA.out.below hbB) (by unfold maxLen; simp; omega) (by simp; omega) (by first | exact hAs | exact hBs) ?_; intro a5 n5 c5 w5 hown5 hn5 jv hat5; have h5 : Z V.heap.size V3 w5 := (by first | exact hA.grown jv hAs HV0.out.base | exact hB.grown jv hBs HV0.out.base); have h5s : V.heap.size ≤ w5.heap.size := Nat.le_trans hbs h5.size; have HO5 : Q (za 5 1 zbb w5 V.heap.size (G a5 n5 c5) (pre ++ zam h)) := hown5; (try have HRB5 : Q (zi 1 zbb w5 aB (zam (n : Int))) := (by first | exact ((HOB.out.keptNew jv (by first | exact fun k hk => (World.ownsRow.lt HV0.out k hk).2 | exact fun k hk => (World.ownsRow.lt HVA.out k hk).2)).at lenB).1 | exact (((HOB.out.below hbA (kaa _)).keptNew jv (by first | exact fun k hk => (World.ownsRow.lt HV0.out k hk).2 | exact fun k hk => (World.ownsRow.lt HVA.out k hk).2)).at lenB).1)); clear hown5 hn5 hat5)
   | (go_at_call 124; (with_reducible refine (zhh (n : Int) _ hn1 hn2).mono ?_); rintro e wB ⟨vB, rfl, hoB, hbB⟩; obtain ⟨aB, cB, rfl, hatB, -⟩ := hoB.bytes; have hB : Z V.heap.size V3 wB := (by first | exact h5.trans (hbB.mono h5s) | exact hA.trans (hbB.mono hAs) | exact hX0.trans (hbB.mono hbs)); have hBs : V.heap.size ≤ wB.heap.size := Nat.le_trans hbs hB.size; (try have HVB : Q (za 5 1 zbb wB V.heap.size (G a3 n3 c3) pre) := (by first | exact HVA.out.below hbB (kaa _) | exact (HV0.out.below hX1 (kaa _)).below hbB (kaa _))); (try have HO5B : Q (za 5 1 zbb wB V.heap.size (G a5 n5 c5) (pre ++ zam h)) := HO5.out.below hbB (kaa _)); have HOB : Q (za 5 1 zbb wB _ _ (zam (n : Int))) := hoB.ownB; have HRB : Q (zi 1 zbb wB aB (zam (n : Int))) := zhc hatB; clear hoB hatB)
   | (go_at_call 124; (with_reducible refine (zhh h _ hh1 hh2).mono ?_); rintro e wA ⟨vA, rfl, hoA, hbA⟩; obtain ⟨aA, cA, rfl, hatA, -⟩ := hoA.bytes; have hA : Z V.heap.size V3 wA := (by first | exact hB.trans (hbA.mono hBs) | exact hX0.trans (hbA.mono hbs)); have hAs : V.heap.size ≤ wA.heap.size := Nat.le_trans hbs hA.size; have HVA : Q (za 5 1 zbb wA V.heap.size (G a3 n3 c3) pre) := (by first | exact HVB.out.below hbA (kaa _) | exact (HV0.out.below hX1 (kaa _)).below hbA (kaa _)); have HRA : Q (zi 1 zbb wA aA (zam h)) := zhc hatA; clear hoA hatA))
  all_goals
   go_wp2_with fail
   go_meet
   case rel => exact ⟨a6, n6, c6, rfl, H6⟩
 case rest =>
 obtain ⟨a4, n4, c4, rfl, hcut⟩ := hcut;have HB4 := zA (HB3.out.trans hcut.out.2);obtain ⟨pre2, HPRE2⟩ : ∃ pre2, Q (pre2 = pre ++ zam h ++ zam (n : Int)) := ⟨_, rfl⟩;have hpl2 : pre2.length ≤ 31 := by rw [HPRE2.out]; simp; omega
 have HBody : Q (zcl (k, d, h, l) = pre2 ++ zbx l) := by show _ = _; rw [HPRE2.out, HPRE.out, HN.out.1]; simp [zcl]
 have HO4 : Q (za 5 1 zbb wc V.heap.size (G a4 n4 c4) pre2) := by rw [HPRE2.out]; exact hcut.out.1
 have hn3 := ((HV.out.2.below HB4.out HV.out.2.lt).cell 3);simp only [List.getElem?_toArray, List.getElem?_cons_zero, List.getElem?_cons_succ] at hn3
 clear hcut hX0 hX1 HK HV0 HB3 hbs ld lh ln HPRE HPRE2 hpl;go_wp2;clear hn3;go_loopw [3, 28] (fun v i w' => ∃ j : Nat, j ≤ n ∧ i = E J j ∧ Q (za 5 1 zbb w' V.heap.size v (pre2 ++ zbx (l.take j)) ∧ Z V.heap.size V w')) (fun _ i _ => n - (intOf i).toNat)
 case atStart => exact ⟨0, Nat.zero_le _, rfl, by simpa [zbx] using HO4.out, HB4.out⟩
 case round =>
  clear HO4 HB4;obtain ⟨j, hj, rfl, hH⟩ := hrel;by_cases hlt2 : j < n
  ·have hjl : j < l.length := by have := HN.out.1; omega
   obtain ⟨hO, hbw⟩ := hH.out
   have hlen : (pre2 ++ zbx (l.take j)).length ≤ 20000031 := by
    have h1 := zjt (l.take j);have h2 := List.length_take_le j l;simp; omega
   have HE : Q (pre2 ++ zbx (l.take (j + 1)) = pre2 ++ zbx (l.take j) ++ zam l[j].2.1 ++ zam l[j].2.2) := by show _ = _; rw [zpk hjl]; simp
   obtain ⟨⟨g1, g2⟩, g3, g4⟩ := HN.out.2.2.1 _ (List.getElem_mem hjl);rcases (HN.out.2.1.below HV.out.1).below hbw with h0 | ⟨b', o, rfl, hb', hc⟩
   ·rw [h0] at hjl; simp at hjl
   obtain ⟨d0, d1, d2⟩ := hc j hjl;have hsz := hbw.size;clear hc hH;generalize pre2 ++ zbx (l.take j) = lp at *;generalize l[j] = p at *;clear hjl;obtain ⟨p0, p1, p2⟩ := p;simp only at d0 d1 d2 g1 g2 g3 g4 HE
   obtain ⟨av, nv, cv, rfl⟩ := hO.slice lenB;have HW := zB hO hbw;have hP := zh wr (T #[E J p0, E J p1, E J p2] 90);have hPb : Blk (wr.alloc (T #[E J p0, E J p1, E J p2] 90)) wr.heap.size #[E J p0, E J p1, E J p2] 90 := Blk.new _ _ _;clear hO hbw;go_upto_region 6 with fail
   clear d0 d1 d2;generalize wr.alloc (T #[E J p0, E J p1, E J p2] 90) = zZ at *;have HP0 := zA hPb;have HV0 := zA (HW.out.1.below hP (kaa _));have HQ := zA (HW.out.2.trans (hP.mono hsz));have hbs := HQ.out.size;have hX0 : Z V.heap.size zZ zZ.drew := (Below.refl _ _).drew;have hX1 : Z zZ.heap.size zZ zZ.drew := (Below.refl _ _).drew;have HS0 : Q (zZ.cell? ⟨wr.heap.size, 1, U⟩ = some (E J p1) ∧ zZ.cell? ⟨wr.heap.size, 2, U⟩ = some (E J p2)) := ⟨hPb.cell 1, hPb.cell 2⟩;have HSX : Q (zZ.drew.cell? ⟨wr.heap.size, 1, U⟩ = some (E J p1) ∧ zZ.drew.cell? ⟨wr.heap.size, 2, U⟩ = some (E J p2)) := ⟨(hPb.below hX1 hPb.lt).cell 1, (hPb.below hX1 hPb.lt).cell 2⟩;have hPl := hPb.lt;have lp1 := zfq p1;have lp2 := zfq p2;clear hP hPb
   go_region_held3 (fun w' => (w'.cell? ⟨wr.heap.size, 1, U⟩ = some (E J p1) ∧ w'.cell? ⟨wr.heap.size, 2, U⟩ = some (E J p2))) (
    first
    | (with_reducible exact HS6.out)
    | (with_reducible exact HS5.out)
    | (with_reducible exact HSB.out)
    | (with_reducible exact HSA.out)
    | (with_reducible exact HSX.out)
    | (with_reducible exact HS0.out)) (
    first
    | (refine zet lenB oneB Tryz.underlying113 zgw rfl (by decide) _ (by first | rfl | simp [Region.wanted, yielded]) (.tmp 36) (.tmp 39) rfl V.heap.size (G a5 n5 c5) (lp ++ zam p1) rfl (by first | exact HO5.out | exact HO5B.out) aB _ cB (zam p2) rfl rfl (by first | exact HRB5.out | exact HRB.out) (by unfold maxLen; simp; omega) (by simp; omega) (by first | exact h5s | exact hBs) ?_; intro a6 n6 c6 w6 hown6 hn6 jx hat6; have h6 : Z V.heap.size zZ w6 := (by first | exact h5.grown jx h5s HO5.out.base | exact hB.grown jx hBs HO5.out.base); have H6 : Q (za 5 1 zbb w6 V.heap.size (G a6 n6 c6) (lp ++ zam p1 ++ zam p2) ∧ Z V.heap.size zZ w6) := ⟨hown6, h6⟩; have HP6 : Q (Blk w6 wr.heap.size #[E J p0, E J p1, E J p2] 90) := (by first | exact HP5.out.keptT jx (HO5.out.grownT (by decide)) | exact HPB.out.keptT jx (HO5B.out.grownT (by decide))); have HS6 : Q (w6.cell? ⟨wr.heap.size, 1, U⟩ = some (E J p1) ∧ w6.cell? ⟨wr.heap.size, 2, U⟩ = some (E J p2)) := ⟨HP6.out.cell 1, HP6.out.cell 2⟩; clear hown6 hn6 jx hat6)
    | (refine zet lenB oneB Tryz.underlying113 zgw rfl (by decide) _ (by first | rfl | simp [Region.wanted, yielded]) (.tmp 32) (.tmp 35) rfl V.heap.size (G av nv cv) lp rfl (by first | exact HVA.out | exact HVB.out) aA _ cA (zam p1) rfl rfl (by first | exact HRA.out | exact HRA.out.below hbB) (by unfold maxLen; simp; omega) (by simp; omega) (by first | exact hAs | exact hBs) ?_; intro a5 n5 c5 w5 hown5 hn5 jv hat5; have h5 : Z V.heap.size zZ w5 := (by first | exact hA.grown jv hAs HV0.out.base | exact hB.grown jv hBs HV0.out.base); have h5s : V.heap.size ≤ w5.heap.size := Nat.le_trans hbs h5.size; have HO5 : Q (za 5 1 zbb w5 V.heap.size (G a5 n5 c5) (lp ++ zam p1)) := hown5; (try have HRB5 : Q (zi 1 zbb w5 aB (zam p2)) := (by first | exact ((HOB.out.keptNew jv (by first | exact fun k hk => (World.ownsRow.lt HV0.out k hk).2 | exact fun k hk => (World.ownsRow.lt HVA.out k hk).2)).at lenB).1 | exact (((HOB.out.below hbA (kaa _)).keptNew jv (by first | exact fun k hk => (World.ownsRow.lt HV0.out k hk).2 | exact fun k hk => (World.ownsRow.lt HVA.out k hk).2)).at lenB).1)); have HP5 : Q (Blk w5 wr.heap.size #[E J p0, E J p1, E J p2] 90) := (by first | exact HPA.out.keptT jv (HVA.out.grownT (by decide)) | exact HPB.out.keptT jv (HVB.out.grownT (by decide))); have HS5 : Q (w5.cell? ⟨wr.heap.size, 1, U⟩ = some (E J p1) ∧ w5.cell? ⟨wr.heap.size, 2, U⟩ = some (E J p2)) := ⟨HP5.out.cell 1, HP5.out.cell 2⟩; clear hown5 hn5 hat5)
    | (go_at_call 124; (with_reducible refine (zhh p2 _ g3 g4).mono ?_); rintro e wB ⟨vB, rfl, hoB, hbB⟩; obtain ⟨aB, cB, rfl, hatB, -⟩ := hoB.bytes; have hB : Z V.heap.size zZ wB := (by first | exact h5.trans (hbB.mono h5s) | exact hA.trans (hbB.mono hAs) | exact hX0.trans (hbB.mono hbs)); have hBs : V.heap.size ≤ wB.heap.size := Nat.le_trans hbs hB.size; (try have HVB : Q (za 5 1 zbb wB V.heap.size (G av nv cv) lp) := (by first | exact HVA.out.below hbB (kaa _) | exact (HV0.out.below hX1 (kaa _)).below hbB (kaa _))); (try have HO5B : Q (za 5 1 zbb wB V.heap.size (G a5 n5 c5) (lp ++ zam p1)) := HO5.out.below hbB (kaa _)); have HOB : Q (za 5 1 zbb wB _ _ (zam p2)) := hoB.ownB; have HRB : Q (zi 1 zbb wB aB (zam p2)) := zhc hatB; have HPB : Q (Blk wB wr.heap.size #[E J p0, E J p1, E J p2] 90) := (by first | exact HP5.out.below hbB HP5.out.lt | exact HPA.out.below hbB HPA.out.lt | exact (HP0.out.below hX1 HP0.out.lt).below hbB HP0.out.lt); have HSB : Q (wB.cell? ⟨wr.heap.size, 1, U⟩ = some (E J p1) ∧ wB.cell? ⟨wr.heap.size, 2, U⟩ = some (E J p2)) := ⟨HPB.out.cell 1, HPB.out.cell 2⟩; clear hoB hatB)
    | (go_at_call 124; (with_reducible refine (zhh p1 _ g1 g2).mono ?_); rintro e wA ⟨vA, rfl, hoA, hbA⟩; obtain ⟨aA, cA, rfl, hatA, -⟩ := hoA.bytes; have hA : Z V.heap.size zZ wA := (by first | exact hB.trans (hbA.mono hBs) | exact hX0.trans (hbA.mono hbs)); have hAs : V.heap.size ≤ wA.heap.size := Nat.le_trans hbs hA.size; have HVA : Q (za 5 1 zbb wA V.heap.size (G av nv cv) lp) := (by first | exact HVB.out.below hbA (kaa _) | exact (HV0.out.below hX1 (kaa _)).below hbA (kaa _)); have HRA : Q (zi 1 zbb wA aA (zam p1)) := zhc hatA; have HPA : Q (Blk wA wr.heap.size #[E J p0, E J p1, E J p2] 90) := (by first | exact HPB.out.below hbA HPB.out.lt | exact (HP0.out.below hX1 HP0.out.lt).below hbA HP0.out.lt); have HSA : Q (wA.cell? ⟨wr.heap.size, 1, U⟩ = some (E J p1) ∧ wA.cell? ⟨wr.heap.size, 2, U⟩ = some (E J p2)) := ⟨HPA.out.cell 1, HPA.out.cell 2⟩; clear hoA hatA))
   all_goals
    have HF : Q (za 5 1 zbb w6 V.heap.size (G a6 n6 c6) (pre2 ++ zbx (l.take (j + 1))) ∧ Z V.heap.size V w6) := ⟨by rw [HE.out]; exact H6.out.1, HQ.out.trans H6.out.2⟩;clear HV0 HW HQ hX0 hX1 HP0 HS0 HSX H6;go_wp2;go_roundw
    case rel => exact ⟨j + 1, by omega, by go_num, HF⟩
    case measure => simp [intOf]; omega
  ·have hH2 : za 5 1 zbb wr V.heap.size u3 (zcl (k, d, h, l)) ∧ Z V.heap.size V wr := by
    have := hH.out;rwa [kac (by have := HN.out.1; omega), ← HBody.out] at this
   have hbl : (zcl (k, d, h, l)).length ≤ 20000031 := by
    rw [HBody.out];have h1 := zjt l;have := HN.out.1;simp; omega
   obtain ⟨hO, hbw⟩ := hH2;have hO2 := hO.ofB;have hbyt := HN.out.2.2.2;have HT : Q (zas (k, d, h, l) = zcl (k, d, h, l) ++ [zch (zcl (k, d, h, l)) / 256, zch (zcl (k, d, h, l)) % 256]) := rfl;have HVs := zB HV.out.1 HV.out.1.size;have hbsz := hbw.size;clear hH HBody HN hO;generalize zcl (k, d, h, l) = body at *;obtain ⟨a', cap', rfl, hat, hcap⟩ := hO2.bytes;have HS := zk6 a' body cap' body.length wr rfl (by omega) hbyt hat;have hslt := zib body;generalize zch body = s at *;have HO2 := zB hO2 hbw;clear hat hbyt hO2 hbw;go_wp2_with fail
   refine HS.mono ?_;rintro e w6 ⟨rfl, rfl⟩;clear HS;go_wp2_with (at_builtin; refine zg3 _ rfl _ _ rfl V.heap.size _ _ rfl (HO2.out.1.below (zh w6 _) (kaa _)) w6.heap.size 2 [s / 256, s % 256] rfl (by simp) rfl (by exact heap_alloc_new w6 _) (by simp; omega) (by simp; omega) ?_; intro g cap2 w7 hown2 hgrow)
   go_ret;refine ⟨_, rfl, ?_, ?_⟩
   ·rw [HT.out]
    exact zbn.base hown2 HVs.out.2
   ·have hoA := HO2.out.1.below (zh w6 (T (zc4 [s / 256, s % 256]).toArray 5)) (kaa _)
    exact HVs.out.1.trans ((HO2.out.2.trans (((zh w6 _).mono hbsz).trans (hgrow.below hoA (kaa _) (by simp; omega)))).mono HVs.out.2)
def ze9 (m : Q4) : Prop := (-9223372036854775808 ≤ m.2.1 ∧ m.2.1 ≤ 9223372036854775807) ∧ (-9223372036854775808 ≤ m.2.2.1 ∧ m.2.2.1 ≤ 9223372036854775807) ∧ Nums m.2.2.2 ∧ m.2.2.2.length ≤ 1000000
def sendN (bs : List (List Nat)) (ms : List Q4) : List (List Nat) := bs ++ (ms.map fun m => zas m).take (24 - bs.length)
theorem zgu (net ms : List Q4) : sendN (net.map fun m => zas m) ms = (zbt net ms).map fun m => zas m := by
 unfold sendN zbt
 rw [List.map_append, List.map_take, List.length_map]
structure SentF (R : Nat → Prop) (w w' : World) (base : Nat) (v : Value) (X jz : List XN) (zs : List (List Nat)) : Prop where
 own : za 113 1 zcd w' base v (X ++ jz)
 says : jz.map (·.2) = zs
 bytes : ∀ z ∈ jz, zdo base w' z.1.1 z.2
 caps : ∀ z ∈ jz, z.2.length ≤ z.1.2 ∧ z.1.2 ≤ maxLen
 bel : Z w.heap.size w w'
theorem SentF.net {R : Nat → Prop} {w w' : World} {base : Nat} {a : Option Addr} {n c : Nat} {X jz : List XN} {bs zs : List (List Nat)} (H : SentF R w w' base (G a n c) X jz zs) (hX : X.map (·.2) = bs) (hb : ∀ x ∈ X, zeq R w x.1.1 x.2) (hcp : ∀ x ∈ X, x.2.length ≤ x.1.2 ∧ x.1.2 ≤ maxLen) (hR : ∀ b, R b → b < base) : zbp R w' a n (X ++ jz) (bs ++ zs) := by
 have h1 := H.own.at zci;refine ⟨h1.2.1, h1.1, H.own.outR hR _, by rw [List.map_append, hX, H.says], fun x hx => ?_, fun x hx => (kab.1 hx).elim (hcp x) (H.caps x)⟩;rcases kab.1 hx with hx | hx
 ·exact (hb x hx).below H.bel
 ·exact (H.bytes x hx).outR hR
theorem zgn (R : Nat → Prop) (na ma : Option Addr) (nn nc mn mc : Nat) (X : List XN) (bs : List (List Nat)) (zX : List XM) (ms : List Q4) (w : World) (hR : ∀ b, R b → b < w.heap.size) (hN : zbp R w na nn X bs) (hM : zed R w ma mn zX ms) (hl : X.length ≤ 1000000) (hml : ms.length ≤ 9223372036854775807) (h64 : ∀ m ∈ ms, ze9 m) :
  Calls Tryz.prog 68 #[G na nn nc, G ma mn mc] w fun e w' => ∃ v', e = .returned v' ∧ (∃ a n c Y, v' = G a n c ∧ n ≤ c ∧ zbp R w' a n Y (sendN bs ms)) ∧ Z w.heap.size w w' := by
 have HN : Q (zbp R w na nn X bs ∧ zed R w ma mn zX ms ∧ (∀ m ∈ ms, ze9 m) ∧ (∀ b, R b → b < w.heap.size) ∧ zX.length = ms.length ∧ X.length = bs.length) := ⟨hN, hM, h64, hR, by rw [← hM.says, List.length_map], by rw [← hN.says, List.length_map]⟩;have hmn : mn ≤ 9223372036854775807 := by have h1 := hM.n; have h2 := HN.out.2.2.2.2.1; omega
 have hmu : Q (mn = zX.length ∧ mn = ms.length) := ⟨hM.n, by have h1 := hM.n; have h2 := HN.out.2.2.2.2.1; omega⟩;clear hN hM h64 hR hml;go_enter Tryz.func68, Tryz.ntmps68
 go_wp2_with (at_builtin; refine zbi zci oneN Tryz.underlying63 zfa rfl (by decide) _ rfl _ _ rfl w.heap.size (G (some ⟨w.heap.size, 0, U⟩) 0 0) [] rfl (za.made0 (Blk.new _ _ _) (kaa _)) na nn nc X rfl HN.out.1.n (HN.out.1.row.below (zh w _)) (by unfold maxLen; simp; omega) (by simp; omega) (by simp) ?_; intro a4 n4 c4 w4 jy hn4 jq jw; clear hn4)
 have hS4 : SentF R w w4 w.heap.size (G a4 n4 c4) X [] [] := ⟨by rw [List.append_nil]; exact jy, rfl, (fun z hz => by cases hz), (fun z hz => by cases hz), (zh w _).grown jq (by simp) (fun k hk => by cases hk; exact kaa _)⟩;have HS4 := zA hS4;clear jy jq jw hS4;go_wp2;go_loopw [0, 5] (fun v i w' => ∃ (k : Nat) (jz : List XN), k ≤ mn ∧ i = E J k ∧ jz.length = k ∧ (k = 0 ∨ X.length + k ≤ 24) ∧ Q (SentF R w w' w.heap.size v X jz ((ms.take k).map fun m => zas m))) (fun _ i _ => mn - (intOf i).toNat)
 case atStart => exact ⟨0, [], Nat.zero_le _, rfl, rfl, Or.inl rfl, HS4.out⟩
 case round =>
  obtain ⟨k, jz, hk, rfl, hZl, hroom, hH⟩ := hrel;obtain ⟨av, nv, cv, rfl⟩ := hH.out.own.slice zci;have hnv : Q (nv = X.length + k) := by have := (hH.out.own.at zci).2.1; rw [List.length_append, hZl] at this; exact this
  by_cases hlt : k < mn
  ·by_cases h24 : nv < 24
   ·have hkU : k < zX.length := by have := hmu.out.1; omega
    have hkM : k < ms.length := by have := hmu.out.2; omega
    have hMk : ms[k] = zce zX[k] := by
     have : ms = zX.map zce := HN.out.2.1.says.symm;subst this;rw [List.getElem_map]
    have HE : Q ((ms.take (k + 1)).map (fun m => zas m) = (ms.take k).map (fun m => zas m) ++ [zas (zce zX[k])]) := by
     show _ = _
     rw [zav hkM, List.map_append, hMk]; rfl
    obtain ⟨g1, g2, g3, g4⟩ := HN.out.2.2.1 ms[k] (List.getElem_mem hkM);rw [hMk] at g1 g2 g3 g4;have hq := (HN.out.2.1.parts _ (List.getElem_mem hkU)).1.below hH.out.bel;rcases HN.out.2.1.row.below hH.out.bel with h0 | ⟨g, o, rfl, hg, hc⟩
    ·rw [h0] at hkU; simp at hkU
    have d0 := hc k hkU 0 _ rfl;have d1 := hc k hkU 1 _ rfl;have d2 := hc k hkU 2 _ rfl;have d3 := hc k hkU 3 _ rfl;have hsz := hH.out.bel.size;clear hc;generalize hU : zX[k] = x at *;clear hMk hU;obtain ⟨kd, dd, hs, ⟨ax, cx⟩, l⟩ := x;simp only [zce, Nat.add_zero] at d0 d1 d2 d3 hq g1 g2 g3 g4 HE
    obtain ⟨ln, HLL⟩ : ∃ ln, Q (l.length = ln) := ⟨_, rfl⟩;rw [HLL.out] at d3;have HQ := zD hq g3 g4 hH.out;have hlen : (X ++ jz).length ≤ 23 := by rw [List.length_append, hZl]; have := hnv.out; omega
    clear hq g3 g4 hH hnv;go_wp2_with fail
    refine (zo9 kd dd hs ax l cx ln wr HLL.out.symm HQ.out.2.2.1 HQ.out.1 g1 g2 HQ.out.2.1).mono ?_;rintro e w5 ⟨v5, rfl, hB5, hb5⟩;obtain ⟨a5, c5, rfl, hT5, hcp5⟩ := hB5.typed;have HT5 := zC hT5 hb5 hcp5;have hs5 := hb5.size;clear hB5 hT5 hb5 hcp5 d0 d1 d2 d3 g1 g2;go_wp2_with (at_builtin; refine zbi zci oneN Tryz.underlying63 zfa rfl (by decide) _ rfl _ _ rfl w.heap.size (G av nv cv) (X ++ jz) rfl ((HQ.out.2.2.2.own.below HT5.out.2.1 (kaa _)).below (zh w5 _) (kaa _)) (some ⟨w5.heap.size, 0, U⟩) 1 1 [((a5, c5), zas (kd, dd, hs, l))] rfl rfl (zi.one (Blk.new w5 _ _) rfl) (by unfold maxLen; simp; simp at hlen; omega) (by simp; simp at hlen; omega) (by simp; omega) ?_; intro a6 n6 c6 w6 hown6 hn6 jx hat6; clear hn6)
    have hoW := (HQ.out.2.2.2.own.below HT5.out.2.1 (kaa _)).below (zh w5 (T #[G a5 (zas (kd, dd, hs, l)).length c5] 113)) (kaa _)
    have HF : Q (SentF R w w6 w.heap.size (G a6 n6 c6) X (jz ++ [((a5, c5), zas (kd, dd, hs, l))]) ((ms.take (k + 1)).map fun m => zas m)) := by
     have hC : zg 5 w5 w6 := (zg.alloc _ _ _).trans (zg.grown jx (hoW.grownT (by decide)));refine ⟨by rw [← List.append_assoc]; exact hown6, by rw [List.map_append, HQ.out.2.2.2.says, HE.out]; rfl, fun z hz => ?_, fun z hz => (kab.1 hz).elim (HQ.out.2.2.2.caps z) (fun h => by rw [List.mem_singleton.1 h]; exact HT5.out.2.2), ((HQ.out.2.2.2.bel.trans (HT5.out.2.1.mono hsz)).alloc (by omega) _).grown jx (by simp; omega) HQ.out.2.2.2.own.base⟩;rcases kab.1 hz with hz | hz
     ·exact ((HQ.out.2.2.2.bytes z hz).calm (zg.below HT5.out.2.1 (kaa _))).calm hC
     ·rw [List.mem_singleton.1 hz]; exact (HT5.out.1.mono hsz).calm hC
    have hZ2 : (jz ++ [(((a5, c5), zas (kd, dd, hs, l)) : XN)]).length = k + 1 := by rw [List.length_append, hZl]; rfl
    have hr2 : X.length + (k + 1) ≤ 24 := by rw [List.length_append, hZl] at hlen; omega
    clear hoW hown6 jx hat6;go_wp2;go_roundw
    case rel => exact ⟨k + 1, _, by omega, by go_num, hZ2, Or.inr hr2, HF⟩
    case measure => simp [intOf]; omega
   ·have HF : Q ((nv ≤ cv ∧ zbp R wr av nv (X ++ jz) (sendN bs ms)) ∧ Z w.heap.size w wr) := by
     have hq := hH.out.net HN.out.1.says HN.out.1.bytes HN.out.1.caps HN.out.2.2.2.1
     have e : (ms.take k).map (fun m => zas m) = (ms.map fun m => zas m).take (24 - bs.length) := by
      rw [← List.map_take];have h1 := HN.out.2.2.2.2.2;have h2 := hnv.out;have : k = 24 - bs.length := by omega
      rw [this]
     rw [e] at hq;exact ⟨⟨by have h1 := hH.out.own.at zci; omega, hq⟩, hH.out.bel⟩
    have h24' : ¬ ((nv : Int) < 24) := by omega
    clear hH hnv;go_wp2;go_ret;exact ⟨_, rfl, ⟨av, nv, cv, rfl, HF.out.1.1, _, HF.out.1.2⟩, HF.out.2⟩
  ·have HF : Q ((nv ≤ cv ∧ zbp R wr av nv (X ++ jz) (sendN bs ms)) ∧ Z w.heap.size w wr) := by
    have hq := hH.out.net HN.out.1.says HN.out.1.bytes HN.out.1.caps HN.out.2.2.2.1
    have e : (ms.take k).map (fun m => zas m) = (ms.map fun m => zas m).take (24 - bs.length) := by
     have h3 := hmu.out.2;have h1 := HN.out.2.2.2.2.2;rw [kac (by omega), kac (by rw [List.length_map]; omega)]
    rw [e] at hq;exact ⟨⟨by have h1 := hH.out.own.at zci; omega, hq⟩, hH.out.bel⟩
   clear hH hnv;go_wp2;go_ret;exact ⟨_, rfl, ⟨av, nv, cv, _, rfl, HF.out.1.1, HF.out.1.2⟩, HF.out.2⟩
def zdq (w : World) (base : Nat) (v : Value) (bs : List (List Nat)) : Prop :=
 ∃ X : List XN, za 113 1 zcd w base v X ∧ X.map (·.2) = bs ∧ (∀ x ∈ X, zdo base w x.1.1 x.2) ∧ ∀ x ∈ X, x.2.length ≤ x.1.2 ∧ x.1.2 ≤ maxLen
theorem zdq.nil (w : World) (base : Nat) : zdq w base (G U 0 0) [] := ⟨[], za.nil _ _, rfl, (fun x hx => by cases hx), fun x hx => by cases hx⟩
theorem zdq.below {w w' : World} {base : Nat} {v : Value} {bs : List (List Nat)} (h : zdq w base v bs) (hb : Z w.heap.size w w') : zdq w' base v bs := by
 obtain ⟨X, h1, h2, h3, h4⟩ := h;exact ⟨X, h1.below hb (kaa _), h2, fun x hx => (h3 x hx).calm (zg.below hb (kaa _)), h4⟩
theorem zdq.mono {w : World} {base base' : Nat} {v : Value} {bs : List (List Nat)} (h : zdq w base v bs) (hb : base' ≤ base) : zdq w base' v bs := by
 obtain ⟨X, h1, h2, h3, h4⟩ := h;exact ⟨X, h1.mono hb, h2, fun x hx => (h3 x hx).mono hb, h4⟩
theorem zdq.f {w : World} {base : Nat} {v : Value} {bs : List (List Nat)} (h : zdq w base v bs) {R : Nat → Prop} (hR : ∀ b, R b → b < base) : ∃ a n c X, v = G a n c ∧ n = bs.length ∧ zbp R w a n X bs := by
 obtain ⟨X, h1, h2, h3, h4⟩ := h;obtain ⟨a, c, rfl, hr, _, _⟩ := h1.row zci;exact ⟨a, _, c, X, rfl, by rw [← h2, List.length_map], ⟨rfl, hr, h1.outR hR _, h2, fun x hx => (h3 x hx).outR hR, h4⟩⟩
theorem zdq.slice {w : World} {base : Nat} {v : Value} {bs : List (List Nat)} (h : zdq w base v bs) : ∃ a c, v = G a bs.length c := by
 obtain ⟨X, h1, h2, -, -⟩ := h;obtain ⟨a, c, rfl, -, -, -⟩ := h1.row zci;exact ⟨a, c, by rw [← h2, List.length_map]⟩
theorem zdq.snoc {w w' w'' : World} {base : Nat} {v v'' : Value} {bs : List (List Nat)} {X : List XN} {x : XN} (hX : X.map (·.2) = bs) (h3 : ∀ x ∈ X, zdo base w x.1.1 x.2) (h4 : ∀ x ∈ X, x.2.length ≤ x.1.2 ∧ x.1.2 ≤ maxLen) (hc : zg 5 w w') (hown : za 113 1 zcd w' base v X)
  (hg : w'.grownBy w'' v.ownBlock) (hown' : za 113 1 zcd w'' base v'' (X ++ [x])) (hx : zdo base w' x.1.1 x.2) (hcp : x.2.length ≤ x.1.2 ∧ x.1.2 ≤ maxLen) : zdq w'' base v'' (bs ++ [x.2]) := by
 have hC : zg 5 w' w'' := zg.grown hg (hown.grownT (by decide));refine ⟨X ++ [x], hown', by rw [List.map_append, hX]; rfl, fun z hz => ?_, fun z hz => (kab.1 hz).elim (h4 z) (fun h => by rw [List.mem_singleton.1 h]; exact hcp)⟩;rcases kab.1 hz with hz | hz
 ·exact ((h3 z hz).calm hc).calm hC
 ·rw [List.mem_singleton.1 hz]; exact hx.calm hC
theorem Blk.setCells {g : Nat} {zV : TypeId} : ∀ (vs : List Value) (j : Nat) (w : World) (cur : Array Value), Blk w g cur zV → j + vs.length ≤ cur.size → Blk (w.setCells g j vs) g (cur.toList.take j ++ vs ++ cur.toList.drop (j + vs.length)).toArray zV
 | [], j, w, cur, h, _ => by
  have e : (cur.toList.take j ++ [] ++ cur.toList.drop (j + ([] : List Value).length)).toArray = cur := by simp
  rw [e];exact h
 | u :: jj, j, w, cur, h, hl => by
  rw [List.length_cons] at hl;rw [World.setCells];have h1 := Blk.setCells jj (j + 1) _ _ (h.set j u) (by simp; omega)
  have e : ((cur.setIfInBounds j u).toList.take (j + 1) ++ jj ++ (cur.setIfInBounds j u).toList.drop (j + 1 + jj.length)).toArray = (cur.toList.take j ++ (u :: jj) ++ cur.toList.drop (j + (u :: jj).length)).toArray := by
   have e1 : (cur.setIfInBounds j u).toList = cur.toList.set j u := by simp
   have e2 : (cur.toList.set j u).take (j + 1) = cur.toList.take j ++ [u] := by
    rw [List.take_set, List.take_succ_eq_append_getElem (by simp; omega)];rw [List.set_append_right _ _ (by simp; omega)];simp
    have : j - min j cur.size = 0 := by omega
    rw [this];rfl
   have e3 : (cur.toList.set j u).drop (j + 1 + jj.length) = cur.toList.drop (j + (u :: jj).length) := by
    rw [List.drop_set_of_lt (by omega)];congr 1
    simp
    omega
   rw [e1, e2, e3];simp
  rw [e] at h1;exact h1
theorem zf.setCells {R : Nat → Prop} {w : World} {g : Nat} (hg : R g) : ∀ (vs : List Value) (j : Nat) (w' : World), zf R w w' → zf R w (w'.setCells g j vs)
 | [], _, _, h => h
 | u :: jj, j, w', h => by
  rw [World.setCells];exact zf.setCells hg jj (j + 1) _ (h.setCell (p := ⟨g, j, U⟩) hg u)
theorem zn5 {α : Type} {enc : α → List Value} {size : Nat} (he : ∀ x, (enc x).length = size) (xs : List α) (i : Nat) (hi : i ≤ xs.length) : (zx enc xs).take (i * size) = zx enc (xs.take i) := by
 have h1 : zx enc xs = zx enc (xs.take i) ++ zx enc (xs.drop i) := by rw [← zfd, List.take_append_drop]
 have h2 : (zx enc (xs.take i)).length = i * size := by rw [zdh he, List.length_take]; congr 1; omega
 rw [h1, ← h2, List.take_left'];rfl
theorem zog {α : Type} {enc : α → List Value} {size : Nat} (he : ∀ x, (enc x).length = size) (xs : List α) (i : Nat) (hi : i ≤ xs.length) : (zx enc xs).drop (i * size) = zx enc (xs.drop i) := by
 have h1 : zx enc xs = zx enc (xs.take i) ++ zx enc (xs.drop i) := by rw [← zfd, List.take_append_drop]
 have h2 : (zx enc (xs.take i)).length = i * size := by rw [zdh he, List.length_take]; congr 1; omega
 rw [h1, ← h2, List.drop_left'];rfl
theorem za.putN {α : Type} {e : TypeId} {size : Nat} {enc : α → List Value} {w : World} {base g cap n i : Nat} {xs : List α} (he : ∀ x, (enc x).length = size) (h : za e size enc w base (G (some ⟨g, 0, U⟩) n cap) xs) (hi : i < xs.length) (x : α) :
  za e size enc (w.setCells g (i * size) (enc x)) base (G (some ⟨g, 0, U⟩) n cap) (xs.set i x) := by
 rcases h.2 with ⟨hv, h0⟩ | ⟨g', cap', cur, hv, hg, hh, hcap, hmx, hsz, htake⟩
 ·cases hv
 cases hv;have hB : Blk w g cur e := hh;have h3 : (i + 1) * size ≤ xs.length * size := Nat.mul_le_mul_right _ hi;have h4 : xs.length * size ≤ cap * size := Nat.mul_le_mul_right _ hcap;rw [Nat.add_mul, Nat.one_mul] at h3;have hl : (xs.set i x).length = xs.length := by simp
 have hB1 := Blk.setCells (enc x) (i * size) w cur hB (by rw [he]; omega);refine ⟨by rw [zdh he], Or.inr ⟨g, cap, _, by rw [hl], hg, hB1, by rw [hl]; exact hcap, hmx, ?_, ?_⟩⟩
 ·simp [he]; omega
 ·have e1 : zx enc (xs.set i x) = zx enc (xs.take i) ++ enc x ++ zx enc (xs.drop (i + 1)) := by
   rw [List.set_eq_take_append_cons_drop, if_pos hi, zfd];simp [zx]
  have e2 : cur.toList.take (i * size) = zx enc (xs.take i) := by
   rw [← zn5 he xs i (by omega), ← htake, List.take_take, Nat.min_eq_left (by omega)]
  have e3 : (cur.toList.drop (i * size + size)).take (xs.length * size - (i * size + size)) = zx enc (xs.drop (i + 1)) := by
   rw [← zog he xs (i + 1) hi, ← htake, Nat.add_mul, Nat.one_mul, List.drop_take]
  rw [hl, he, e1, ← e2, ← e3];simp only [List.append_assoc]
  rw [List.take_append, List.take_append];have l1 : (cur.toList.take (i * size)).length = i * size := by simp; omega
  rw [l1, he, List.take_take, Nat.min_eq_right (by omega), kac (l := enc x) (by rw [he]; omega)];rw [show xs.length * size - i * size - size = xs.length * size - (i * size + size) by omega]
theorem zbw.slice {w : World} {base : Nat} {v : Value} {l : List P3} (h : zbw w base v l) : ∃ a cap, v = G a l.length cap := by
 obtain ⟨a, cap, e, _⟩ := h.parts;exact ⟨a, cap, e⟩
theorem zlx : ∀ (b : List Nat) (k u : Nat), (zeb k u b).2.1 ≤ k + b.length
 | [], k, u => by simp [zeb]
 | c :: t, k, u => by
  have ih := zlx t (k + 1);unfold zeb
  split
  ·simp
  split
  ·have := ih (u + c % 128 * 128 ^ k); simp; omega
  split
  ·simp
  ·simp
theorem getB_le (b : List Nat) : (zt b).2.1 ≤ b.length := by have := zlx b 0 0; simpa [zt] using this
def StAt (w : World) (N : Nat) (st : List Nat × Int) : Prop :=
 ∃ b o cap, Blk w (N + 1) #[G (some ⟨b, o, U⟩) st.1.length cap] 113 ∧ Blk w (N + 2) #[E J st.2] 32 ∧ b < N ∧ st.1.length ≤ cap ∧ cap ≤ 9223372036854775807 ∧ Byt st.1 ∧
  ∀ i (h : i < st.1.length), w.cell? ⟨b, o + i, U⟩ = some (E .u8 (st.1[i] : Nat))
def Two (N k : Nat) : Prop := k = N + 1 ∨ k = N + 2
end Go.Proofs.YtpcnlifmkhagkaaGreat
