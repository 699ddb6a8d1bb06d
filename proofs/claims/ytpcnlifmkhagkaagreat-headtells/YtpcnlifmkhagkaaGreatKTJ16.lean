import Derived.Test.YtpcnlifmkhagkaaGreatKTJ15
set_option maxRecDepth 20000
set_option maxHeartbeats 20000000
namespace Go.Proofs.YtpcnlifmkhagkaaGreat
open Go.RowKit
open Go.Value renaming slice → G, int → E
open Go.IntKind renaming i64 → J
open _root_.Option renaming none → U
open Go.Obj renaming cells → T
open Go.RowKit renaming Hid → Q, Below → Z
open Go.World renaming setCell → r
open _root_.Nat renaming le_refl → kaa
open Go.Value renaming ownBlock → kab
attribute [local go_sem ↓] Go.wp_at_zero Go.wp_at_succ
theorem zeroQ (w : World) : (zeroValue 58).run Tryz.prog w = .ok (.agg #[E J 0, G U 0 0, .bool false, G U 0 0]) w := by
 obtain ⟨i0, hi, hz0, hz1, hz2⟩ := info_parts zd9;simp [zeroValue, typeInfo, hi, hz0]
theorem delQ_any (a : Option Addr) (X : List XO) (cap n base i j : Nat) (w : World) (hj : j = i + 1) (hown : za 58 4 zaj w base (G a n cap) X) (hi : i < X.length) :
  Calls Tryz.prog 59 #[G a n cap, E J (i : Nat), E J (j : Nat)] w fun e w' => e = .returned (G a (n - 1) cap) ∧ za 58 4 zaj w' base (G a (n - 1) cap) (X.eraseIdx i) ∧ zf (fun b => ∃ ad, a = some ad ∧ b = ad.block) w w' := by
 obtain ⟨i0, hi0, hz0, hz1, hz2⟩ := info_parts zd9;have hnX := (hown.at zaq).2.1;have hO := hown;rcases hown.2 with ⟨hv, h0⟩ | ⟨g, cap', cur, hv, hg, hh, hcap, hmx, hsz, htake⟩
 ·omega
 injection hv with ha hn2 hc2
 subst ha;subst hc2;subst hnX;have hB : Blk w g cur 58 := hh;unfold maxLen at hmx
 obtain ⟨news, hnews⟩ : ∃ news, news = zx zaj (X.drop j) := ⟨_, rfl⟩;have hlen : news.length = (X.length - j) * 4 := by rw [hnews, zdh zaq]; simp
 have hL : cur.toList.length = cur.size := by simp
 have hcs : X.length * 4 ≤ cur.size := by rw [hsz]; exact Nat.mul_le_mul_right _ hcap
 have hget : ∀ t, t < news.length → cur[j * 4 + t]? = news[t]? := by
  intro t ht;have h1 : zx zaj X = zx zaj (X.take j) ++ news := by rw [hnews, ← zfd, List.take_append_drop]
  have h2 : (zx zaj (X.take j)).length = j * 4 := by rw [zdh zaq, List.length_take]; congr 1; omega
  have h3 : (zx zaj X)[j * 4 + t]? = news[t]? := by rw [h1, List.getElem?_append_right (by omega), h2]; congr 1; omega
  rw [← htake, List.getElem?_take_of_lt (by omega)] at h3;rw [← h3]; simp
 obtain ⟨A, hA, hsrc⟩ : ∃ A : Addr, (if cap = j then some (⟨g, 0, U⟩ : Addr) else some ⟨g, j * 4, U⟩) = some A ∧ Q (∀ t u, news[t]? = some u → w.drew.cell? (A.add t) = some u) := by
  by_cases h : cap = j
  ·refine ⟨⟨g, 0, U⟩, by simp [h], fun t u hu => ?_⟩
   have h0 : news.length = 0 := by rw [hlen]; omega
   rw [List.length_eq_zero_iff.1 h0] at hu;simp at hu
  ·refine ⟨⟨g, j * 4, U⟩, by simp [h], fun t u hu => ?_⟩
   have ht := (List.getElem?_eq_some_iff.1 hu).1;rw [Addr.add_lit];refine (hB.drew.cell _).trans ?_;have h5 := hget t ht;rw [hu] at h5
   simpa using h5
 have s1 := zA hlen
 have s2 : Q (∀ u ∈ news, u.oneCell' = true) := by
  intro u hu;rw [hnews] at hu;exact zhk oneQ _ u hu
 have s3 : Q (∀ t, t < news.length → (w.drew.cell? ⟨g, 0 + i * 4 + t, U⟩).isSome = true ∧ w.drew.frozen? ⟨g, 0 + i * 4 + t, U⟩ = false) := by
  intro t ht;refine ⟨?_, hB.drew.free _⟩;rw [hB.drew.cell, Array.getElem?_eq_getElem (by omega)];rfl
 obtain ⟨W1, hW1⟩ : ∃ W1, W1 = w.drew.setCells g (0 + i * 4) news := ⟨_, rfl⟩;have hB1 := Blk.setCells news (0 + i * 4) w.drew cur hB.drew (by omega);rw [← hW1] at hB1;obtain ⟨cur1, hcur1⟩ : ∃ cur1, cur1 = (cur.toList.take (0 + i * 4) ++ news ++ cur.toList.drop (0 + i * 4 + news.length)).toArray := ⟨_, rfl⟩;rw [← hcur1] at hB1;have hsz1 : cur1.size = cur.size := by rw [hcur1]; simp; omega
 have hK1 : zf (fun b => b = g) w W1 := by rw [hW1]; exact zf.setCells (R := fun b => b = g) rfl _ _ _ (zf.refl _ _).drew
 have hO1 : za 58 4 zaj W1 base (G (some ⟨g, 0, U⟩) (X.length - 1) cap) (X.eraseIdx i) := by
  have hel : (X.eraseIdx i).length = X.length - 1 := by rw [List.length_eraseIdx]; simp [hi]
  refine ⟨by rw [zdh zaq], Or.inr ⟨g, cap, cur1, by rw [hel], hg, hB1, by rw [hel]; omega, by unfold maxLen; exact hmx, by rw [hsz1]; exact hsz, ?_⟩⟩;have e1 : zx zaj (X.eraseIdx i) = zx zaj (X.take i) ++ news := by rw [List.eraseIdx_eq_take_drop_succ, zfd, hnews, hj]
  have e2 : cur.toList.take (0 + i * 4) = zx zaj (X.take i) := by
   have h1 : zx zaj X = zx zaj (X.take i) ++ zx zaj (X.drop i) := by rw [← zfd, List.take_append_drop]
   have h2 : (zx zaj (X.take i)).length = 0 + i * 4 := by rw [zdh zaq, List.length_take, Nat.zero_add]; congr 1; omega
   have h3 : (cur.toList.take (X.length * 4)).take (0 + i * 4) = cur.toList.take (0 + i * 4) := by rw [List.take_take, Nat.min_eq_left (by omega)]
   rw [← h3, htake, h1, ← h2, List.take_left'];rfl
  rw [e1, hel, hcur1];simp only [e2]
  rw [List.take_append_of_le_length (by simp [zdh zaq, hlen]; omega)];rw [List.take_of_length_le (by simp [zdh zaq, hlen]; omega)]
 have hcl' : ∀ ty, ∃ vs, (Builtin.clear_ #[27] ty #[G (some ⟨g, (X.length - 1) * 4, U⟩) 1 (cap - (X.length - 1))]).run Tryz.prog W1 = .ok (.tuple #[]) (W1.setCells g ((X.length - 1) * 4) vs) := fun ty =>
  zh8 W1 27 58 ty (.agg #[E J 0, G U 0 0, .bool false, G U 0 0]) Tryz.underlying27 zeroQ (by intro u hu; simp [Value.cells] at hu; rcases hu with rfl | rfl | rfl | rfl <;> rfl) g ((X.length - 1) * 4) 1 _ (by omega)
   (fun j hj => by have hj' : j < 4 := (by simpa [Value.cells] using hj); rw [hB1.cell, Array.getElem?_eq_getElem (by omega)]; rfl) (fun j hj => hB1.free _)
 have hW := zA hW1;have HO : Q (za 58 4 zaj W1 base (G (some ⟨g, 0, U⟩) (X.length - 1) cap) (X.eraseIdx i) ∧ zf (fun b => b = g) w W1 ∧ (X.eraseIdx i).length = X.length - 1) := ⟨hO1, hK1, by rw [List.length_eraseIdx]; simp [hi]⟩;have hi1 : i ≤ cap := by omega
 have hj1 : j ≤ cap := by omega
 have hjX : j ≤ X.length := by omega
 have hij : ¬ i = j := by omega
 have hjl : i + (X.length - j) = X.length - 1 := by omega
 have hX1 : X.length - (X.length - 1) = 1 := by omega
 have hXc := hcap;obtain ⟨vs, hcl⟩ := hcl' 0;clear hB hh hown hO htake hget hnews hlen hsz hsz1 hcur1 hB1 hO1 hK1 hW1 hL hcs hcap hg hj hi hcl';go_enter Tryz.func59, Tryz.ntmps59
 go_wp2_with fail
 go_region_law (refine step_append_room rfl (.tmp 22) (.tmp 25) 27 rfl 58 i0 4 Tryz.underlying27 hi0 hz1 g 0 i cap (by simp [Act.eval, Act.put]) A (X.length - j) (cap - j) news (by simp [Act.eval, Act.put]) s1.out hsrc.out s2.out (by omega) s3.out ?_; rw [← hW.out])
 generalize hmm0 : X.length - 1 = m at *;have hmm := zA hmm0;clear hmm0;go_wp2;go_ret;rw [hmm.out];exact ⟨rfl, za.setCells zaq HO.out.2.2.symm vs (m * 4) W1 HO.out.1 (by rw [HO.out.2.2]; omega), (zf.setCells (R := fun b => b = g) rfl _ _ _ HO.out.2.1).mono (fun b _ hb => ⟨_, rfl, hb⟩)⟩
theorem zge : zfb 56 := fun _ _ => rfl
theorem zmk (b : Nat) (mk md mh k : Int) (mv : Value) (w : World) (hb : Blk w b #[E J mk, E J md, E J mh, mv] 25) :
  Calls Tryz.prog 54 #[E J k, .pointer (some ⟨b, 0, U⟩)] w fun e w' => ∃ v, e = .returned v ∧ zm w' w.heap.size v [(k, md, mh, [])] ∧ Z w.heap.size w w' := by
 have HF : Q (zm (w.alloc (T #[E J k, E J md, E J mh, G U 0 0] 25)) w.heap.size (G (some ⟨w.heap.size, 0, U⟩) 1 1) [(k, md, mh, [])] ∧ Z w.heap.size w (w.alloc (T #[E J k, E J md, E J mh, G U 0 0] 25))) := ⟨zm.new1 w (kaa _) k md mh, zh _ _⟩;have b1 := hb.cell 1;have b2 := hb.cell 2;simp only [List.getElem?_toArray, List.getElem?_cons_zero, List.getElem?_cons_succ] at b1 b2
 have lb := hb.lt;clear hb;go_enter Tryz.func54, Tryz.ntmps54
 go_wp2;go_ret;exact ⟨_, rfl, HF.out.1, HF.out.2⟩
theorem zgf (b : Nat) (mk md mh dd : Int) (mv v1 v2 v3 : Value) (w : World) (hb : Blk w b #[E J mk, E J md, E J mh, mv] 25) :
  Calls Tryz.prog 56 #[.agg #[E J dd, v1, v2, v3], .pointer (some ⟨b, 0, U⟩)] w fun e w' => e = .returned (.bool (dd == md)) ∧ Z w.heap.size w w' := by
 have hb0 := zh w (T #[E J dd, v1, v2, v3] 58);have hbA := hb.below hb0 hb.lt;have b1 := hbA.cell 1;simp only [List.getElem?_toArray, List.getElem?_cons_zero, List.getElem?_cons_succ] at b1
 have lb := hb.lt;clear hb hbA;go_enter Tryz.func56, Tryz.ntmps56
 go_wp2;go_ret;exact ⟨rfl, hb0⟩
theorem zne (B b base : Nat) (bcs : Array Value) (la : Option Addr) (nl lc : Nat) (Y : List XL) (mk md mh k : Int) (mv : Value) (pa : Option Addr) (ln pc : Nat) (l : List P3) (w : World) (hB : Blk w B bcs 29) (hc0 : w.cell? ⟨B, 0, U⟩ = some (G la nl lc)) (hb : Blk w b #[E J mk, E J md, E J mh, mv] 25) (hO : zc7 w base (G la nl lc) Y) (hbase : base ≤ w.heap.size) (hY : Y.length ≤ 900000) (hln : ln = l.length) (hl : l.length ≤ 1000) (hp : zae w pa l) :
  Calls Tryz.prog 57 #[E J k, G pa ln pc, .pointer (some ⟨B, 0, U⟩), .pointer (some ⟨b, 0, U⟩)] w fun e w' => e = .returned (.tuple #[]) ∧ ∃ (w1 w2 : World) (a' : Option Addr) (n' c' : Nat) (a5 : Option Addr) (c5 : Nat), Z w.heap.size w w1 ∧ zai w.heap.size w1 a5 l ∧ w1.grownBy w2 (kab (G la nl lc)) ∧ za 40 3 zah w2 base (G a' n' c') (Y ++ [(k, md, (a5, c5), l)]) ∧ w' = r w2 ⟨B, 0, U⟩ (G a' n' c') := by
 have HQ := zF hln hl hp hO hB hb;have HC0 := zA hc0;clear hln hl hp hO hB hb hc0;have hX1 : Z w.heap.size w w.drew := (Below.refl _ _).drew;have HK : Q (∀ w', Z w.heap.size w w' → (w'.cell? ⟨B, 0, U⟩ = some (G la nl lc) ∧ w'.cell? ⟨b, 1, U⟩ = some (E J md))) := fun w' hb => ⟨(hb.cell HQ.out.2.2.2.2.1.lt).trans HC0.out, (HQ.out.2.2.2.2.2.below hb HQ.out.2.2.2.2.2.lt).cell 1⟩
 go_enter Tryz.func57, Tryz.ntmps57
 refine zb9 (S := fun w' => (w'.cell? ⟨B, 0, U⟩ = some (G la nl lc) ∧ w'.cell? ⟨b, 1, U⟩ = some (E J md))) 11 (by kernel_rfl) (HK.out _ hX1) (fun hHeld => ?_);refine tks 6 [(0, 6), (2, 8), (3, 9), (5, 11), (1, 7), (4, 10)] (b := ?_) rfl (by decide +kernel) (fun _ _ _ _ _ h => h) ?_ hHeld ?_;rotate_left 1
 ·iterate 6 (refine zo.cons (v := ?_) rfl rfl (by rfl) ?_ ?_; rotate_left 1; (intro w h; (try dsimp only at h); go_simp; try with_reducible rfl))
  exact zo.nil
 refine rdy 6 (by kernel_rfl) rfl (fun K hK => ?_);go_simp;(go_at_call 45; refine (zgo pa l pc ln w.drew HQ.out.1 (by have := HQ.out.2.1; omega) (HQ.out.2.2.1.below hX1)).mono ?_; rintro e w1 ⟨a5, c5, rfl, hT5, hb1⟩; have hXA : Z w.heap.size w w1 := hX1.trans (hb1.mono hX1.size); have hXAs := hXA.size; have HT5 : Q (zai w.heap.size w1 a5 l) := hT5.mono hX1.size; clear hT5 hb1)
 go_wp2_with fail
 refine kgo hK (by decide +kernel) ((HK.out _ hXA)) (fun hHeld => ?_);clear hK K;refine tks 1 [(7, 13)] (b := ?_) rfl (by decide +kernel) (fun _ _ _ _ _ h => h) ?_ hHeld ?_;rotate_left 1
 ·iterate 1 (refine zo.cons (v := ?_) rfl rfl (by rfl) ?_ ?_; rotate_left 1; (intro w h; (try dsimp only at h); go_simp; try with_reducible rfl))
  exact zo.nil
 refine rdy 8 (by kernel_rfl) rfl (fun K hK => ?_);go_simp;refine kgo hK (by decide +kernel) ((HK.out _ (hXA.alloc hXAs _))) (fun hHeld => ?_);clear hK K;have hXB : Z w.heap.size w (w1.alloc (T #[E J k, E J md, G a5 ln c5] 40)) := hXA.alloc hXAs _;have hoB := HQ.out.2.2.2.1.1.below hXB (kaa _);refine rdy 9 (by kernel_rfl) rfl (fun K hK => ?_);refine zet za7 zcs Tryz.underlying26 zcp rfl (by decide) _ rfl (.tmp 7) (.tmp 14) rfl base (G la nl lc) Y rfl hoB (some ⟨w1.heap.size, 0, U⟩) 1 1 [(k, md, (a5, c5), l)] rfl rfl (zi.one (Blk.new w1 _ _) (by simp [zah, ← HQ.out.1])) (by unfold maxLen; simp; omega) (by simp; omega) (by simp; omega) ?_;intro a4 n4 c4 w4 jy hn4 jq jw;have hB4 := (HQ.out.2.2.2.2.1.below hXB HQ.out.2.2.2.2.1.lt).keptT jq (hoB.grownT (by decide));have hb4 := (HQ.out.2.2.2.2.2.below hXB HQ.out.2.2.2.2.2.lt).keptT jq (hoB.grownT (by decide));have H4 : Q (za 40 3 zah w4 base (G a4 n4 c4) (Y ++ [(k, md, (a5, c5), l)]) ∧ (w1.alloc (T #[E J k, E J md, G a5 ln c5] 40)).grownBy w4 (kab (G la nl lc)) ∧ zai w.heap.size (w1.alloc (T #[E J k, E J md, G a5 ln c5] 40)) a5 l) := ⟨jy, jq, HT5.out.calm (zg.alloc _ _ _)⟩;have p0 := (hB4.cell 0).trans ((HQ.out.2.2.2.2.1.cell 0).symm.trans HC0.out);have p1 : w4.cell? ⟨b, 1, U⟩ = some (E J md) := hb4.cell 1;have q0 := hB4.free 0;have l4 := hB4.lt;clear jy hn4 jq jw hB4 hb4;refine kgo hK (by decide +kernel) (⟨p0, p1⟩) (fun hHeld => ?_);clear hK K;refine tks 1 [(10, 16)] (b := ?_) rfl (by decide +kernel) (fun _ _ _ _ _ h => h) ?_ hHeld ?_
 rotate_left 1
 ·iterate 1 (refine zo.cons (v := ?_) rfl rfl (by rfl) ?_ ?_; rotate_left 1; (intro w h; (try dsimp only at h); go_simp; try with_reducible rfl))
  exact zo.nil
 refine rdy 11 (by kernel_rfl) rfl (fun K hK => ?_);go_simp;refine za5 hK (by decide +kernel) ?_;clear hK K hHeld;refine zbd (by kernel_rfl) ?_ _;go_wp2;exact bodyPost_end (v := .tuple #[]) (results_none rfl _ _ _) rfl ⟨rfl, _, w4, a4, n4, c4, a5, c5, hXB, H4.out.2.2, H4.out.2.1, H4.out.1, rfl⟩
theorem zl2 (B b base i : Nat) (bcs : Array Value) (oa : Option Addr) (no oc : Nat) (X : List XO) (w : World) (hB : Blk w B bcs 29) (hc3 : w.cell? ⟨B, 3, U⟩ = some (G oa no oc)) (hb : Blk w b #[E J (i : Nat)] 3) (hO : za 58 4 zaj w base (G oa no oc) X) (hi : i < X.length) (hl : X.length ≤ 100000) :
  Calls Tryz.prog 58 #[.pointer (some ⟨B, 0, U⟩), .pointer (some ⟨b, 0, U⟩)] w fun e w' => e = .returned (.tuple #[]) ∧ ∃ (w2 : World) (a' : Option Addr) (n' c' : Nat), za 58 4 zaj w2 base (G a' n' c') (X.eraseIdx i) ∧ zf (fun q => kab (G oa no oc) = some q) w w2 ∧ w' = r w2 ⟨B, 3, U⟩ (G a' n' c') := by
 have HQ := zB hB hO;have b0 := hb.cell 0;simp only [List.getElem?_toArray, List.getElem?_cons_zero] at b0
 have lb := hb.lt;have lB := hB.lt;have hw1 : IntKind.i64.wrap ((i : Int) + 1) = ((i + 1 : Nat) : Int) := by rw [IntKind.wrap_i64]; omega
 clear hB hb hO;go_enter Tryz.func58, Tryz.ntmps58
 go_wp2_with fail
 refine (delQ_any oa X oc no base i (i + 1) w rfl HQ.out.2 hi).mono ?_;rintro e w2 ⟨rfl, ho2, hk2⟩;have hne := HQ.out.2.neT HQ.out.1 (by decide)
 have hk : zf (fun q => kab (G oa no oc) = some q) w w2 := hk2.mono (fun q _ hq => by
  obtain ⟨ad, e, hb⟩ := hq;subst e;subst hb
  rfl)
 have hB2 := HQ.out.1.keep hk hne;have H2 := zB ho2 hk;have p3 := (hk.cell (o := 3) lB hne).trans hc3;have q3 := hB2.free 3;have l2 := hB2.lt;clear ho2 hk2 hk hB2 hne b0 lb hw1 hc3;go_wp2;exact bodyPost_end (v := .tuple #[]) (results_none rfl _ _ _) rfl ⟨rfl, w2, oa, no - 1, oc, H2.out.1, H2.out.2, rfl⟩
theorem zew {w : World} {g o : Nat} {X : List XO} (h : zi 4 zaj w (some ⟨g, o, U⟩) X) {k : Nat} (hk : k < X.length) : g < w.heap.size ∧ w.cell? ⟨g, o + k * 4, U⟩ = some (E J X[k].1) ∧ w.cell? ⟨g, o + k * 4 + 1, U⟩ = some (.slice X[k].2.1.1.1 X[k].2.1.2.length X[k].2.1.1.2) ∧ w.cell? ⟨g, o + k * 4 + 2, U⟩ = some (.bool X[k].2.2.1) ∧ w.cell? ⟨g, o + k * 4 + 3, U⟩ = some (.slice X[k].2.2.2.1.1 X[k].2.2.2.2.length X[k].2.2.2.1.2) := by
 rcases h with rfl | ⟨b, o', e, hlt, hc⟩
 ·simp at hk
 ·cases e
  exact ⟨hlt, hc k hk 0 _ rfl, hc k hk 1 _ rfl, hc k hk 2 _ rfl, hc k hk 3 _ rfl⟩
theorem zfy (F : Nat) (cap1 : Array Value) (hF : zfb F) (p : XO → Bool) (a : Option Addr) (X : List XO) (cap n : Nat) (w : World) (hn : n = X.length) (hl : X.length ≤ 9223372036854775807) (hp : zi 4 zaj w a X)
  (hf : ∀ x ∈ X, ∀ w', Z w.heap.size w w' → Calls Tryz.prog F (#[.agg #[E J x.1, G x.2.1.1.1 x.2.1.2.length x.2.1.1.2, .bool x.2.2.1, G x.2.2.2.1.1 x.2.2.2.2.length x.2.2.2.1.2]] ++ cap1) w' fun e w'' => e = .returned (.bool (p x)) ∧ Z w'.heap.size w' w'') :
  Calls Tryz.prog 55 #[G a n cap, .func (.func F) #[] cap1] w fun e w' => ∃ jj : Int, e = .returned (E J jj) ∧ IdxP X p jj ∧ Z w.heap.size w w' := by
 have HP := zB hn hp;have HFn := zA hf;have hnl : n ≤ 9223372036854775807 := by omega
 clear hn hp hf;go_enter Tryz.func55, Tryz.ntmps55
 go_wp2;go_loopw [8] (fun i w' => ∃ k : Nat, k ≤ n ∧ i = E J k ∧ Q (∀ x ∈ X.take k, p x = false) ∧ Z w.heap.size w w') (fun i _ => n - (intOf i).toNat)
 case atStart => exact ⟨0, Nat.zero_le _, rfl, (fun x hx => by simp at hx), Below.refl _ _⟩
 case round =>
  obtain ⟨k, hk, rfl, hno, hbw⟩ := hrel;have hsz := hbw.size;by_cases hlt : k < n
  ·have hkX : k < X.length := by have := HP.out.1; omega
   have hrow := HP.out.2.below hbw
   obtain ⟨g, o, rfl⟩ : ∃ g o, a = some ⟨g, o, U⟩ := by
    rcases HP.out.2 with h | ⟨g, o, h, _⟩
    ·rw [h] at hkX; simp at hkX
    ·exact ⟨g, o, h⟩
   obtain ⟨_, d0, d1, d2, d3⟩ := zew hrow hkX;have HI : Q (p X[k] = true → IdxP X p k) := fun h => Or.inr ⟨k, hkX, rfl, h, fun j hj hj' => hno.out _ (List.mem_take_iff_getElem.2 ⟨j, by omega, rfl⟩)⟩
   have HJ : Q (p X[k] = false → ∀ x ∈ X.take (k + 1), p x = false) := fun h x hx => by
    rw [zav hkX] at hx;rcases List.mem_append.1 hx with hx | hx
    ·exact hno.out x hx
    ·rw [List.mem_singleton.1 hx]; exact h
   have HC := HFn.out _ (List.getElem_mem hkX);clear hrow hno;generalize X[k] = x at *;generalize p x = pb at *;obtain ⟨dd, ⟨⟨pa, pc⟩, l⟩, dec, ⟨ha, hc⟩, hd⟩ := x;simp only at d0 d1 d2 d3 HC
   generalize l.length = ln at *;generalize hd.length = hn at *;go_wp2_with fail
   rw [hF.out, Oper.upon_enter];refine (HC _ hbw).mono ?_;rintro e w1 ⟨rfl, hb1⟩;have hB1 := hbw.trans (hb1.mono hsz);clear d0 d1 d2 d3 hb1 HC;cases pb
   ·have HJ2 := zA (HJ.out rfl)
    clear HI HJ;go_wp2;go_roundw
    case rel => exact ⟨k + 1, by omega, by go_num, HJ2, hB1⟩
    case measure => simp [intOf]; omega
   ·have HI2 : Q _ := HI.out rfl
    clear HI HJ;go_wp2;go_ret;exact ⟨_, rfl, HI2.out, hB1⟩
  ·have HF : Q (IdxP X p (-1)) := Or.inl ⟨rfl, fun x hx => hno.out x (by rw [List.take_of_length_le (by have := HP.out.1; omega)]; exact hx)⟩
   clear hno;go_wp2;go_ret;exact ⟨_, rfl, HF.out, hbw⟩
theorem infoOp2 (w : World) : (zeroValue 58).run Tryz.prog w = .ok (.agg #[E J 0, G U 0 0, .bool false, G U 0 0]) w := by kernel_rfl
theorem zpi (F : Nat) (cap1 : Array Value) (hF : zfb F) (p : XO → Bool) (a : Option Addr) (X : List XO) (cap n base : Nat) (w : World) (hl : X.length ≤ 4398046511104) (hown : za 58 4 zaj w base (G a n cap) X)
  (hf : ∀ x ∈ X, ∀ w', w.grownBy w' (kab (G a n cap)) → Calls Tryz.prog F (#[.agg #[E J x.1, G x.2.1.1.1 x.2.1.2.length x.2.1.1.2, .bool x.2.2.1, G x.2.2.2.1.1 x.2.2.2.2.length x.2.2.2.1.2]] ++ cap1) w' fun e w'' => e = .returned (.bool (p x)) ∧ Z w'.heap.size w' w'') :
  Calls Tryz.prog 48 #[G a n cap, .func (.func F) #[] cap1] w fun e w' => ∃ n', e = .returned (G a n' cap) ∧ za 58 4 zaj w' base (G a n' cap) (X.filter fun x => !p x) ∧ w.grownBy w' (kab (G a n cap)) := by
 obtain ⟨a', cap', hv, hrow, hcap, hmax⟩ := hown.row zaq;cases hv;have HC := zfy F cap1 hF p a X cap X.length w rfl (by omega) hrow (fun x hx w' hb => hf x hx w' (zez hb));have HO := zC hown hf hmax;have hm63 : (cap : Int) ≤ 9223372036854775807 := by unfold maxLen at hmax; omega
 clear hown hrow hf hmax;generalize hxl : X.length = n at *;have HL := zA hxl;clear hxl;go_enter Tryz.func48, Tryz.ntmps48
 go_wp2_with fail
 refine HC.mono ?_;rintro e w1 ⟨jj, rfl, hidx, hb1⟩;clear HC;rcases hidx with ⟨rfl, hall⟩ | ⟨i0, hi0, rfl, hD, hlow⟩
 ·have HF : Q ((X.filter fun x => !p x) = X) := by
   show _ = _
   rw [List.filter_eq_self];intro x hx;rw [hall x hx]; rfl
  clear hall;go_wp2;go_ret;exact ⟨n, rfl, by rw [HF.out]; exact HO.out.1.below hb1 (kaa _), zez hb1⟩
 ·rw [HL.out] at hi0
  have hi0n := hi0
  obtain ⟨g, ha⟩ : ∃ g, a = some ⟨g, 0, U⟩ := by
   rcases HO.out.1.2 with ⟨hv, h0⟩ | ⟨g, cap', cur, hv, _⟩
   ·exfalso; have := HL.out; omega
   ·cases hv; exact ⟨g, rfl⟩
  subst ha
  have hK0 : Q ((X.take (i0 + 1)).filter (fun x => !p x) = X.take i0) := by
   show _ = _
   have hx : i0 < X.length := by rw [HL.out]; exact hi0
   rw [zav hx, List.filter_append]
   have e1 : (X.take i0).filter (fun x => !p x) = X.take i0 := by
    rw [List.filter_eq_self];intro x hx';obtain ⟨j, hj, rfl⟩ := List.mem_take_iff_getElem.1 hx';rw [hlow j (by omega) (by omega)]; rfl
   rw [e1];simp [hD]
  have hne1 : ((i0 : Int) == -1) = false := beq_eq_false_iff_ne.2 (by omega);clear hlow hD hi0;go_wp2_with fail
  go_loopw [5, 6] (fun s5 s6 w' => ∃ (i j : Nat) (K M : List XO), s5 = E J i ∧ s6 = E J j ∧ j ≤ n ∧ i < j ∧ Q (K = (X.take j).filter (fun x => !p x) ∧ K.length = i ∧ K.length + M.length = j) ∧ za 58 4 zaj w' base (G (some ⟨g, 0, U⟩) n cap) (K ++ (M ++ X.drop j)) ∧ w.grownBy w' (some g)) (fun _ s6 _ => n - (intOf s6).toNat)
  case atStart =>
   have hx : i0 < X.length := by rw [HL.out]; exact hi0n
   refine ⟨i0, i0 + 1, X.take i0, [X[i0]], rfl, by go_num, by omega, by omega, ⟨hK0.out.symm, by simp; omega, by simp; omega⟩, ?_, zez hb1⟩;rw [List.singleton_append, ← List.drop_eq_getElem_cons hx, List.take_append_drop];exact HO.out.1.below hb1 (kaa _)
  case round =>
   obtain ⟨i, j, K, M, rfl, rfl, hj, hij, hKM, hown, hgr⟩ := hrel
   have hlen : Q ((K ++ (M ++ X.drop j)).length = n) := by
    show _ = _
    have := hKM.out.2.2;have := HL.out;simp only [List.length_append, List.length_drop]; omega
   have hrow2 := (hown.at zaq).1;have hsz := hgr.size;by_cases hlt : j < n
   ·have hjX : j < X.length := by rw [HL.out]; exact hlt
    obtain ⟨hgl, d0, d1, d2, d3⟩ := zew hrow2 (k := j) (by rw [hlen.out]; exact hlt);obtain ⟨_, t0, t1, t2, t3⟩ := zew hrow2 (k := i) (by rw [hlen.out]; omega);have ho' := hown;unfold za at ho'
    rw [hlen.out] at ho';have fz : ∀ q, wr.frozen? ⟨g, q, U⟩ = false := fun q => World.ownsRow.frozenAt ho' q
    have hget : (K ++ (M ++ X.drop j))[j]'(by rw [hlen.out]; exact hlt) = X[j] := by
     have h1 := hKM.out.2.2;rw [List.getElem_append_right (by omega), List.getElem_append_right (by omega)];rw [List.getElem_drop];congr 1
     omega
    rw [hget] at d0 d1 d2 d3;have HS := zB (List.drop_eq_getElem_cons hjX) (zav hjX);have HC := HO.out.2.1 _ (List.getElem_mem hjX);generalize (K ++ (M ++ X.drop j))[i]'(by rw [hlen.out]; omega) = old at *;clear hget hrow2;generalize X[j] = x at *;simp only [Nat.zero_add] at d0 d1 d2 d3 t0 t1 t2 t3
    have HW := zB hown hgr;have hi2 : (i : Int) < (n : Int) := by omega
    have fi0 := fz (i * 4);have fi1 := fz (i * 4 + 1);have fi2 := fz (i * 4 + 2);have fi3 := fz (i * 4 + 3);obtain ⟨pb, hpb⟩ : ∃ pb, Q (p x = pb) := ⟨_, rfl⟩;rw [hpb.out] at HC;have HXE : Q (zaj x = [E J x.1, G x.2.1.1.1 x.2.1.2.length x.2.1.1.2, .bool x.2.2.1, G x.2.2.2.1.1 x.2.2.2.2.length x.2.2.2.1.2]) := rfl;clear hown ho' fz;obtain ⟨dd, ⟨⟨pa, pc⟩, l⟩, dec, ⟨ha, hc⟩, hd⟩ := x;simp only at d0 d1 d2 d3 HC HXE
    generalize hln : l.length = ln at *;generalize hhn : hd.length = hn at *;have HN0 := zB hln hhn;clear hln hhn;have hA : Z wr.heap.size wr (wr.alloc (T #[E J dd, G pa ln pc, .bool dec, G ha hn hc] 58)) := zh _ _;have HCW := hgr.trans (zez hA);go_wp2_with fail
    rw [hF.out, Oper.upon_enter];refine (HC _ HCW).mono ?_;rintro e w2 ⟨rfl, hb2'⟩;have hb2 := hA.trans (hb2'.mono (by simp));have hv2 := (Blk.new wr _ _).below hb2' (by simp);obtain ⟨v0, v1, v2, v3⟩ := hv2.cells4;have lv := hv2.lt;obtain ⟨bc, bf⟩ := zc0 hb2;have t0' := (bc g (i * 4) hgl).trans t0;have t1' := (bc g (i * 4 + 1) hgl).trans t1;have t2' := (bc g (i * 4 + 2) hgl).trans t2;have t3' := (bc g (i * 4 + 3) hgl).trans t3;have f0' := (bf g (i * 4) hgl).trans fi0;have f1' := (bf g (i * 4 + 1) hgl).trans fi1;have f2' := (bf g (i * 4 + 2) hgl).trans fi2;have f3' := (bf g (i * 4 + 3) hgl).trans fi3;have HO2 := zB (HW.out.1.below hb2 (kaa _)) (HW.out.2.trans (zez hb2));have hgl2 := Nat.lt_of_lt_of_le hgl hb2.size;clear bc bf d0 d1 d2 d3 t0 t1 t2 t3 fi0 fi1 fi2 fi3 hb2 hb2' hA HCW hv2 hgr HW HC
    cases pb with
    | true =>
     have HN : Q (K = (X.take (j + 1)).filter (fun x => !p x) ∧ K.length = i ∧ K.length + (M ++ [(dd, ((pa, pc), l), dec, ((ha, hc), hd))]).length = j + 1 ∧ K ++ (M ++ X.drop j) = K ++ ((M ++ [(dd, ((pa, pc), l), dec, ((ha, hc), hd))]) ++ X.drop (j + 1))) := by
      refine ⟨?_, hKM.out.2.1, by have := hKM.out.2.2; simp; omega, ?_⟩
      ·rw [HS.out.2, List.filter_append, ← hKM.out.1]
       simp [hpb.out]
      ·rw [HS.out.1]; simp
     clear t0' f0' t1' f1' t2' f2' t3' f3' v0 v1 v2 v3 lv;go_wp2_with fail
     go_roundw
     case rel => exact ⟨i, j + 1, K, M ++ [(dd, ((pa, pc), l), dec, ((ha, hc), hd))], rfl, by go_num, by omega, by omega, ⟨HN.out.1, HN.out.2.1, HN.out.2.2.1⟩, by rw [← HN.out.2.2.2]; exact HO2.out.1, HO2.out.2⟩
     case measure => simp [intOf]; omega
    | false =>
     obtain ⟨m, M', hM⟩ : ∃ m M', M = m :: M' := by
      cases M with
      | nil => exfalso; have h1 := hKM.out.2.2; have h2 := hKM.out.2.1; simp at h1; omega
      | cons m M' => exact ⟨m, M', rfl⟩
     have HN : Q (K ++ [(dd, ((pa, pc), l), dec, ((ha, hc), hd))] = (X.take (j + 1)).filter (fun x => !p x) ∧ (K ++ [(dd, ((pa, pc), l), dec, ((ha, hc), hd))]).length = i + 1 ∧ (K ++ [(dd, ((pa, pc), l), dec, ((ha, hc), hd))]).length + (M' ++ [(dd, ((pa, pc), l), dec, ((ha, hc), hd))]).length = j + 1 ∧ (K ++ (M ++ X.drop j)).set i (dd, ((pa, pc), l), dec, ((ha, hc), hd)) = (K ++ [(dd, ((pa, pc), l), dec, ((ha, hc), hd))]) ++ ((M' ++ [(dd, ((pa, pc), l), dec, ((ha, hc), hd))]) ++ X.drop (j + 1))) := by
      refine ⟨?_, by have := hKM.out.2.1; simp; omega, by have := hKM.out.2.2; rw [hM] at this; simp at this; simp; omega, ?_⟩
      ·rw [HS.out.2, List.filter_append, ← hKM.out.1]
       simp [hpb.out]
      ·rw [HS.out.1, hM, List.set_append_right i _ (by have := hKM.out.2.1; omega), hKM.out.2.1, Nat.sub_self]
       simp
     have HP : Q (za 58 4 zaj (r (r (r (r w2 ⟨g, i * 4, U⟩ (E J dd)) ⟨g, i * 4 + 1, U⟩ (G pa ln pc)) ⟨g, i * 4 + 2, U⟩ (.bool dec)) ⟨g, i * 4 + 3, U⟩ (G ha hn hc)) base (G (some ⟨g, 0, U⟩) n cap) ((K ++ [(dd, ((pa, pc), l), dec, ((ha, hc), hd))]) ++ ((M' ++ [(dd, ((pa, pc), l), dec, ((ha, hc), hd))]) ++ X.drop (j + 1)))) := by
      rw [← HN.out.2.2.2];exact HO2.out.1.put4 zaq hlen.out.symm (by rw [hlen.out]; omega) HXE.out
     have HG : Q (w.grownBy (r (r (r (r w2 ⟨g, i * 4, U⟩ (E J dd)) ⟨g, i * 4 + 1, U⟩ (G pa ln pc)) ⟨g, i * 4 + 2, U⟩ (.bool dec)) ⟨g, i * 4 + 3, U⟩ (G ha hn hc)) (some g)) := (((HO2.out.2.trans (zfc _ _ _ _)).trans (zfc _ _ _ _)).trans (zfc _ _ _ _)).trans (zfc _ _ _ _);clear hM HO2 hlen;go_wp2_with fail
     go_roundw
     case rel => exact ⟨i + 1, j + 1, K ++ [(dd, ((pa, pc), l), dec, ((ha, hc), hd))], M' ++ [(dd, ((pa, pc), l), dec, ((ha, hc), hd))], by go_num, by go_num, by omega, by omega, ⟨HN.out.1, HN.out.2.1, HN.out.2.2.1⟩, HP.out, HG.out⟩
     case measure => simp [intOf]; omega
   ·have hjn : j = n := by omega
    subst hjn;have hdr := List.drop_eq_nil_of_le (by rw [HL.out]; exact kaa _);have hkf : K = X.filter (fun x => !p x) := by rw [hKM.out.1, List.take_of_length_le (by rw [HL.out]; exact kaa _)]
    have ho' := hown;unfold za at ho'
    rw [hlen.out] at ho';have hin := hij
    obtain ⟨vs, hcl⟩ : ∃ vs, ∀ ty, (Builtin.clear_ #[27] ty #[G (some ⟨g, i * 4, U⟩) (j - i) (cap - i)]).run Tryz.prog wr = .ok (.tuple #[]) (wr.setCells g (i * 4) vs) := by
     have h1 := zh8 wr 27 58 0 _ Tryz.underlying27 infoOp2 (by intro u hu; simp [Value.cells] at hu; rcases hu with rfl | rfl | rfl | rfl <;> rfl) g (i * 4) (j - i) (cap - i) (by omega) (fun q hq => by
      have hq' : q < (j - i) * 4 := hq;rw [World.ownsRow.cellAt ho' _ (by omega)];have hl2 : (zx zaj (K ++ (M ++ X.drop j))).length = j * 4 := by rw [zdh zaq, hlen.out]
      rw [List.getElem?_eq_getElem (by rw [hl2]; omega)]
      rfl) (fun q _ => World.ownsRow.frozenAt ho' _)
     obtain ⟨vs, h1⟩ := h1;exact ⟨vs, fun ty => h1⟩
    have HE : Q (za 58 4 zaj (wr.setCells g (i * 4) vs) base (G (some ⟨g, 0, U⟩) i cap) (X.filter fun x => !p x) ∧ w.grownBy (wr.setCells g (i * 4) vs) (some g)) := by
     refine ⟨?_, hgr.trans (zh2 g vs _ _)⟩;rw [← hkf];exact za.setCells zaq hKM.out.2.1.symm vs _ _ (hown.cut zaq hKM.out.2.1.symm) (by rw [hKM.out.2.1]; exact kaa _)
    clear ho' hown hgr hrow2 hdr hkf hKM hlen;have hic : (i : Int) ≤ (cap : Int) := by omega
    have hjc : (j : Int) ≤ (cap : Int) := by omega
    go_wp2;go_ret;exact ⟨i, rfl, HE.out.1, HE.out.2⟩
end Go.Proofs.YtpcnlifmkhagkaaGreat
