import Derived.Test.YtpcnlifmkhagkaaKARefZ
set_option maxRecDepth 20000
set_option maxHeartbeats 20000000
namespace Go.Proofs.Ytpcnlifmkhagkaa
open Go.RowKit
open Go.Value renaming slice → G, int → E
open Go.IntKind renaming i64 → J
open _root_.Option renaming none → U
open Go.Obj renaming cells → T
open Go.RowKit renaming Hid → Q, Below → Z
open Go.World renaming setCell → r
open _root_.Nat renaming le_refl → kaa
open _root_.List renaming map_append → kab, mem_append → kac, mem_of_mem_eraseIdx → kad
attribute [local go_sem ↓] Go.wp_at_zero Go.wp_at_succ
def zfj (m : Q4) : Prop := (-9223372036854775808 ≤ m.2.1 ∧ m.2.1 ≤ 9223372036854775807) ∧ (-9223372036854775808 ≤ m.2.2.1 ∧ m.2.2.1 ≤ 9223372036854775807) ∧ Nums m.2.2.2 ∧ m.2.2.2.length ≤ 1000000
def sendN (bs : List (List Nat)) (ms : List Q4) : List (List Nat) := bs ++ (ms.map fun m => zau m).take (24 - bs.length)
theorem zgu (net ms : List Q4) : sendN (net.map fun m => zau m) ms = (zbu net ms).map fun m => zau m := by
 unfold sendN zbu
 rw [kab, List.map_take, List.length_map]
structure SentF (R : Nat → Prop) (w w' : World) (base : Nat) (v : Value) (X jz : List XN) (zs : List (List Nat)) : Prop where
 own : zd 95 1 zch w' base v (X ++ jz)
 says : jz.map (·.2) = zs
 bytes : ∀ z ∈ jz, zdt base w' z.1.1 z.2
 caps : ∀ z ∈ jz, z.2.length ≤ z.1.2 ∧ z.1.2 ≤ maxLen
 bel : Z w.heap.size w w'
theorem SentF.net {R : Nat → Prop} {w w' : World} {base : Nat} {a : Option Addr} {n c : Nat} {X jz : List XN} {bs zs : List (List Nat)} (H : SentF R w w' base (G a n c) X jz zs) (hX : X.map (·.2) = bs) (hb : ∀ x ∈ X, ze2 R w x.1.1 x.2) (hcp : ∀ x ∈ X, x.2.length ≤ x.1.2 ∧ x.1.2 ≤ maxLen) (hR : ∀ b, R b → b < base) : zbs R w' a n (X ++ jz) (bs ++ zs) := by
 have h1 := H.own.at zcj;refine ⟨h1.2.1, h1.1, H.own.outR hR _, by rw [kab, hX, H.says], fun x hx => ?_, fun x hx => (kac.1 hx).elim (hcp x) (H.caps x)⟩;rcases kac.1 hx with hx | hx
 ·exact (hb x hx).below H.bel
 ·exact (H.bytes x hx).outR hR
theorem zgm (R : Nat → Prop) (na ma : Option Addr) (nn nc mn mc : Nat) (X : List XN) (bs : List (List Nat)) (zX : List XM) (ms : List Q4) (w : World) (hR : ∀ b, R b → b < w.heap.size) (hN : zbs R w na nn X bs) (hM : zes R w ma mn zX ms) (hl : X.length ≤ 1000000) (hml : ms.length ≤ 9223372036854775807) (h64 : ∀ m ∈ ms, zfj m) :
  Calls Try.prog 46 #[G na nn nc, G ma mn mc] w fun e w' => ∃ v', e = .returned v' ∧ (∃ a n c Y, v' = G a n c ∧ n ≤ c ∧ zbs R w' a n Y (sendN bs ms)) ∧ Z w.heap.size w w' := by
 have HN : Q (zbs R w na nn X bs ∧ zes R w ma mn zX ms ∧ (∀ m ∈ ms, zfj m) ∧ (∀ b, R b → b < w.heap.size) ∧ zX.length = ms.length ∧ X.length = bs.length) := ⟨hN, hM, h64, hR, by rw [← hM.says, List.length_map], by rw [← hN.says, List.length_map]⟩;have hmn : mn ≤ 9223372036854775807 := by have h1 := hM.n; have h2 := HN.out.2.2.2.2.1; omega
 have hmu : Q (mn = zX.length ∧ mn = ms.length) := ⟨hM.n, by have h1 := hM.n; have h2 := HN.out.2.2.2.2.1; omega⟩;clear hN hM h64 hR hml;go_enter Try.func46, Try.ntmps46
 go_wp2_with (at_builtin; refine zbj zcj oneN Try.underlying57 zff rfl (by decide) _ rfl _ _ rfl w.heap.size (G (some ⟨w.heap.size, 0, U⟩) 0 0) [] rfl (zd.made0 (Blk.new _ _ _) (kaa _)) na nn nc X rfl HN.out.1.n (HN.out.1.row.below (zi w _)) (by unfold maxLen; simp; omega) (by simp; omega) (by simp) ?_; intro a4 n4 c4 w4 jv hn4 jy jQ; clear hn4)
 have hS4 : SentF R w w4 w.heap.size (G a4 n4 c4) X [] [] := ⟨by rw [List.append_nil]; exact jv, rfl, (fun z hz => by cases hz), (fun z hz => by cases hz), (zi w _).grown jy (by simp) (fun k hk => by cases hk; exact kaa _)⟩;have HS4 := zA hS4;clear jv jy jQ hS4;go_wp2;go_loopw [0, 5] (fun v i w' => ∃ (k : Nat) (jz : List XN), k ≤ mn ∧ i = E J k ∧ jz.length = k ∧ (k = 0 ∨ X.length + k ≤ 24) ∧ Q (SentF R w w' w.heap.size v X jz ((ms.take k).map fun m => zau m))) (fun _ i _ => mn - (intOf i).toNat)
 case atStart => exact ⟨0, [], Nat.zero_le _, rfl, rfl, Or.inl rfl, HS4.out⟩
 case round =>
  obtain ⟨k, jz, hk, rfl, hZl, hroom, hH⟩ := hrel;obtain ⟨av, nv, cv, rfl⟩ := hH.out.own.slice zcj;have hnv : Q (nv = X.length + k) := by have := (hH.out.own.at zcj).2.1; rw [List.length_append, hZl] at this; exact this
  by_cases hlt : k < mn
  ·by_cases h24 : nv < 24
   ·have hkU : k < zX.length := by have := hmu.out.1; omega
    have hkM : k < ms.length := by have := hmu.out.2; omega
    have hMk : ms[k] = zc6 zX[k] := by
     have : ms = zX.map zc6 := HN.out.2.1.says.symm;subst this;rw [List.getElem_map]
    have HE : Q ((ms.take (k + 1)).map (fun m => zau m) = (ms.take k).map (fun m => zau m) ++ [zau (zc6 zX[k])]) := by
     show _ = _
     rw [zax hkM, kab, hMk]; rfl
    obtain ⟨g1, g2, g3, g4⟩ := HN.out.2.2.1 ms[k] (List.getElem_mem hkM);rw [hMk] at g1 g2 g3 g4;have hq := (HN.out.2.1.parts _ (List.getElem_mem hkU)).1.below hH.out.bel;rcases HN.out.2.1.row.below hH.out.bel with h0 | ⟨g, o, rfl, hg, hc⟩
    ·rw [h0] at hkU; simp at hkU
    have d0 := hc k hkU 0 _ rfl;have d1 := hc k hkU 1 _ rfl;have d2 := hc k hkU 2 _ rfl;have d3 := hc k hkU 3 _ rfl;have hsz := hH.out.bel.size;clear hc;generalize hU : zX[k] = x at *;clear hMk hU;obtain ⟨kd, dd, hs, ⟨ax, cx⟩, l⟩ := x;simp only [zc6, Nat.add_zero] at d0 d1 d2 d3 hq g1 g2 g3 g4 HE
    obtain ⟨ln, HLL⟩ : ∃ ln, Q (l.length = ln) := ⟨_, rfl⟩;rw [HLL.out] at d3;have HQ := zD hq g3 g4 hH.out;have jw : (X ++ jz).length ≤ 23 := by rw [List.length_append, hZl]; have := hnv.out; omega
    clear hq g3 g4 hH hnv;go_wp2_with fail
    refine (zoo kd dd hs ax l cx ln wr HLL.out.symm HQ.out.2.2.1 HQ.out.1 g1 g2 HQ.out.2.1).mono ?_;rintro e w5 ⟨v5, rfl, hB5, hb5⟩;obtain ⟨a5, c5, rfl, hT5, hcp5⟩ := hB5.typed;have HT5 := zC hT5 hb5 hcp5;have hs5 := hb5.size;clear hB5 hT5 hb5 hcp5 d0 d1 d2 d3 g1 g2;go_wp2_with (at_builtin; refine zbj zcj oneN Try.underlying57 zff rfl (by decide) _ rfl _ _ rfl w.heap.size (G av nv cv) (X ++ jz) rfl ((HQ.out.2.2.2.own.below HT5.out.2.1 (kaa _)).below (zi w5 _) (kaa _)) (some ⟨w5.heap.size, 0, U⟩) 1 1 [((a5, c5), zau (kd, dd, hs, l))] rfl rfl (zk.one (Blk.new w5 _ _) rfl) (by unfold maxLen; simp; simp at jw; omega) (by simp; simp at jw; omega) (by simp; omega) ?_; intro a6 n6 c6 w6 j8 hn6 jk hat6; clear hn6)
    have hoW := (HQ.out.2.2.2.own.below HT5.out.2.1 (kaa _)).below (zi w5 (T #[G a5 (zau (kd, dd, hs, l)).length c5] 95)) (kaa _)
    have HF : Q (SentF R w w6 w.heap.size (G a6 n6 c6) X (jz ++ [((a5, c5), zau (kd, dd, hs, l))]) ((ms.take (k + 1)).map fun m => zau m)) := by
     have hC : zj 5 w5 w6 := (zj.alloc _ _ _).trans (zj.grown jk (hoW.grownT (by decide)));refine ⟨by rw [← List.append_assoc]; exact j8, by rw [kab, HQ.out.2.2.2.says, HE.out]; rfl, fun z hz => ?_, fun z hz => (kac.1 hz).elim (HQ.out.2.2.2.caps z) (fun h => by rw [List.mem_singleton.1 h]; exact HT5.out.2.2), ((HQ.out.2.2.2.bel.trans (HT5.out.2.1.mono hsz)).alloc (by omega) _).grown jk (by simp; omega) HQ.out.2.2.2.own.base⟩;rcases kac.1 hz with hz | hz
     ·exact ((HQ.out.2.2.2.bytes z hz).calm (zj.below HT5.out.2.1 (kaa _))).calm hC
     ·rw [List.mem_singleton.1 hz]; exact (HT5.out.1.mono hsz).calm hC
    have hZ2 : (jz ++ [(((a5, c5), zau (kd, dd, hs, l)) : XN)]).length = k + 1 := by rw [List.length_append, hZl]; rfl
    have hr2 : X.length + (k + 1) ≤ 24 := by rw [List.length_append, hZl] at jw; omega
    clear hoW j8 jk hat6;go_wp2;go_roundw
    case rel => exact ⟨k + 1, _, by omega, by go_num, hZ2, Or.inr hr2, HF⟩
    case measure => simp [intOf]; omega
   ·have HF : Q ((nv ≤ cv ∧ zbs R wr av nv (X ++ jz) (sendN bs ms)) ∧ Z w.heap.size w wr) := by
     have hq := hH.out.net HN.out.1.says HN.out.1.bytes HN.out.1.caps HN.out.2.2.2.1
     have e : (ms.take k).map (fun m => zau m) = (ms.map fun m => zau m).take (24 - bs.length) := by
      rw [← List.map_take];have h1 := HN.out.2.2.2.2.2;have h2 := hnv.out;have : k = 24 - bs.length := by omega
      rw [this]
     rw [e] at hq;exact ⟨⟨by have h1 := hH.out.own.at zcj; omega, hq⟩, hH.out.bel⟩
    have h24' : ¬ ((nv : Int) < 24) := by omega
    clear hH hnv;go_wp2;go_ret;exact ⟨_, rfl, ⟨av, nv, cv, rfl, HF.out.1.1, _, HF.out.1.2⟩, HF.out.2⟩
  ·have HF : Q ((nv ≤ cv ∧ zbs R wr av nv (X ++ jz) (sendN bs ms)) ∧ Z w.heap.size w wr) := by
    have hq := hH.out.net HN.out.1.says HN.out.1.bytes HN.out.1.caps HN.out.2.2.2.1
    have e : (ms.take k).map (fun m => zau m) = (ms.map fun m => zau m).take (24 - bs.length) := by
     have h3 := hmu.out.2;have h1 := HN.out.2.2.2.2.2;rw [List.take_of_length_le (by omega), List.take_of_length_le (by rw [List.length_map]; omega)]
    rw [e] at hq;exact ⟨⟨by have h1 := hH.out.own.at zcj; omega, hq⟩, hH.out.bel⟩
   clear hH hnv;go_wp2;go_ret;exact ⟨_, rfl, ⟨av, nv, cv, _, rfl, HF.out.1.1, HF.out.1.2⟩, HF.out.2⟩
def zdn (w : World) (base : Nat) (v : Value) (bs : List (List Nat)) : Prop :=
 ∃ X : List XN, zd 95 1 zch w base v X ∧ X.map (·.2) = bs ∧ (∀ x ∈ X, zdt base w x.1.1 x.2) ∧ ∀ x ∈ X, x.2.length ≤ x.1.2 ∧ x.1.2 ≤ maxLen
theorem zdn.nil (w : World) (base : Nat) : zdn w base (G U 0 0) [] := ⟨[], zd.nil _ _, rfl, (fun x hx => by cases hx), fun x hx => by cases hx⟩
theorem zdn.below {w w' : World} {base : Nat} {v : Value} {bs : List (List Nat)} (h : zdn w base v bs) (hb : Z w.heap.size w w') : zdn w' base v bs := by
 obtain ⟨X, h1, h2, h3, h4⟩ := h;exact ⟨X, h1.below hb (kaa _), h2, fun x hx => (h3 x hx).calm (zj.below hb (kaa _)), h4⟩
theorem zdn.mono {w : World} {base base' : Nat} {v : Value} {bs : List (List Nat)} (h : zdn w base v bs) (hb : base' ≤ base) : zdn w base' v bs := by
 obtain ⟨X, h1, h2, h3, h4⟩ := h;exact ⟨X, h1.mono hb, h2, fun x hx => (h3 x hx).mono hb, h4⟩
theorem zdn.f {w : World} {base : Nat} {v : Value} {bs : List (List Nat)} (h : zdn w base v bs) {R : Nat → Prop} (hR : ∀ b, R b → b < base) : ∃ a n c X, v = G a n c ∧ n = bs.length ∧ zbs R w a n X bs := by
 obtain ⟨X, h1, h2, h3, h4⟩ := h;obtain ⟨a, c, rfl, hr, _, _⟩ := h1.row zcj;exact ⟨a, _, c, X, rfl, by rw [← h2, List.length_map], ⟨rfl, hr, h1.outR hR _, h2, fun x hx => (h3 x hx).outR hR, h4⟩⟩
theorem zdn.slice {w : World} {base : Nat} {v : Value} {bs : List (List Nat)} (h : zdn w base v bs) : ∃ a c, v = G a bs.length c := by
 obtain ⟨X, h1, h2, -, -⟩ := h;obtain ⟨a, c, rfl, -, -, -⟩ := h1.row zcj;exact ⟨a, c, by rw [← h2, List.length_map]⟩
theorem zdn.snoc {w w' w'' : World} {base : Nat} {v v'' : Value} {bs : List (List Nat)} {X : List XN} {x : XN} (hX : X.map (·.2) = bs) (h3 : ∀ x ∈ X, zdt base w x.1.1 x.2) (h4 : ∀ x ∈ X, x.2.length ≤ x.1.2 ∧ x.1.2 ≤ maxLen) (hc : zj 5 w w') (jx : zd 95 1 zch w' base v X)
  (hg : w'.grownBy w'' v.ownBlock) (hown' : zd 95 1 zch w'' base v'' (X ++ [x])) (hx : zdt base w' x.1.1 x.2) (hcp : x.2.length ≤ x.1.2 ∧ x.1.2 ≤ maxLen) : zdn w'' base v'' (bs ++ [x.2]) := by
 have hC : zj 5 w' w'' := zj.grown hg (jx.grownT (by decide));refine ⟨X ++ [x], hown', by rw [kab, hX]; rfl, fun z hz => ?_, fun z hz => (kac.1 hz).elim (h4 z) (fun h => by rw [List.mem_singleton.1 h]; exact hcp)⟩;rcases kac.1 hz with hz | hz
 ·exact ((h3 z hz).calm hc).calm hC
 ·rw [List.mem_singleton.1 hz]; exact hx.calm hC
theorem Blk.setCells {g : Nat} {zV : TypeId} : ∀ (vs : List Value) (j : Nat) (w : World) (cur : Array Value), Blk w g cur zV → j + vs.length ≤ cur.size → Blk (w.setCells g j vs) g (cur.toList.take j ++ vs ++ cur.toList.drop (j + vs.length)).toArray zV
 | [], j, w, cur, h, _ => by
  have e : (cur.toList.take j ++ [] ++ cur.toList.drop (j + ([] : List Value).length)).toArray = cur := by simp
  rw [e];exact h
 | u :: jj, j, w, cur, h, hl => by
  rw [List.length_cons] at hl;rw [World.setCells];have h1 := Blk.setCells jj (j + 1) _ _ (h.set j u) (by simp; omega)
  have e : ((cur.setIfInBounds j u).toList.take (j + 1) ++ jj ++ (cur.setIfInBounds j u).toList.drop (j + 1 + jj.length)).toArray = (cur.toList.take j ++ (u :: jj) ++ cur.toList.drop (j + (u :: jj).length)).toArray := by
   have e1 : (cur.setIfInBounds j u).toList = cur.toList.set j u := by simp
   have e2 : (cur.toList.set j u).take (j + 1) = cur.toList.take j ++ [u] := by
    rw [List.take_set, List.take_succ_eq_append_getElem (by simp; omega)];rw [List.set_append_right _ _ (by simp; omega)];simp
    have : j - min j cur.size = 0 := by omega
    rw [this];rfl
   have e3 : (cur.toList.set j u).drop (j + 1 + jj.length) = cur.toList.drop (j + (u :: jj).length) := by
    rw [List.drop_set_of_lt (by omega)];congr 1
    simp
    omega
   rw [e1, e2, e3];simp
  rw [e] at h1;exact h1
theorem zg.setCells {R : Nat → Prop} {w : World} {g : Nat} (hg : R g) : ∀ (vs : List Value) (j : Nat) (w' : World), zg R w w' → zg R w (w'.setCells g j vs)
 | [], _, _, h => h
 | u :: jj, j, w', h => by
  rw [World.setCells];exact zg.setCells hg jj (j + 1) _ (h.setCell (p := ⟨g, j, U⟩) hg u)
theorem znx {α : Type} {enc : α → List Value} {size : Nat} (he : ∀ x, (enc x).length = size) (xs : List α) (i : Nat) (hi : i ≤ xs.length) : (zx enc xs).take (i * size) = zx enc (xs.take i) := by
 have h1 : zx enc xs = zx enc (xs.take i) ++ zx enc (xs.drop i) := by rw [← zfg, List.take_append_drop]
 have h2 : (zx enc (xs.take i)).length = i * size := by rw [zde he, List.length_take]; congr 1; omega
 rw [h1, ← h2, List.take_left'];rfl
theorem zoi {α : Type} {enc : α → List Value} {size : Nat} (he : ∀ x, (enc x).length = size) (xs : List α) (i : Nat) (hi : i ≤ xs.length) : (zx enc xs).drop (i * size) = zx enc (xs.drop i) := by
 have h1 : zx enc xs = zx enc (xs.take i) ++ zx enc (xs.drop i) := by rw [← zfg, List.take_append_drop]
 have h2 : (zx enc (xs.take i)).length = i * size := by rw [zde he, List.length_take]; congr 1; omega
 rw [h1, ← h2, List.drop_left'];rfl
theorem zd.putN {α : Type} {e : TypeId} {size : Nat} {enc : α → List Value} {w : World} {base g cap n i : Nat} {xs : List α} (he : ∀ x, (enc x).length = size) (h : zd e size enc w base (G (some ⟨g, 0, U⟩) n cap) xs) (hi : i < xs.length) (x : α) :
  zd e size enc (w.setCells g (i * size) (enc x)) base (G (some ⟨g, 0, U⟩) n cap) (xs.set i x) := by
 rcases h.2 with ⟨hv, h0⟩ | ⟨g', cap', cur, hv, hg, hh, jZ, hmx, hsz, qJ⟩
 ·cases hv
 cases hv;have hB : Blk w g cur e := hh;have h3 : (i + 1) * size ≤ xs.length * size := Nat.mul_le_mul_right _ hi;have h4 : xs.length * size ≤ cap * size := Nat.mul_le_mul_right _ jZ;rw [Nat.add_mul, Nat.one_mul] at h3;have hl : (xs.set i x).length = xs.length := by simp
 have hB1 := Blk.setCells (enc x) (i * size) w cur hB (by rw [he]; omega);refine ⟨by rw [zde he], Or.inr ⟨g, cap, _, by rw [hl], hg, hB1, by rw [hl]; exact jZ, hmx, ?_, ?_⟩⟩
 ·simp [he]; omega
 ·have e1 : zx enc (xs.set i x) = zx enc (xs.take i) ++ enc x ++ zx enc (xs.drop (i + 1)) := by
   rw [List.set_eq_take_append_cons_drop, if_pos hi, zfg];simp [zx]
  have e2 : cur.toList.take (i * size) = zx enc (xs.take i) := by
   rw [← znx he xs i (by omega), ← qJ, List.take_take, Nat.min_eq_left (by omega)]
  have e3 : (cur.toList.drop (i * size + size)).take (xs.length * size - (i * size + size)) = zx enc (xs.drop (i + 1)) := by
   rw [← zoi he xs (i + 1) hi, ← qJ, Nat.add_mul, Nat.one_mul, List.drop_take]
  rw [hl, he, e1, ← e2, ← e3];simp only [List.append_assoc]
  rw [List.take_append, List.take_append];have l1 : (cur.toList.take (i * size)).length = i * size := by simp; omega
  rw [l1, he, List.take_take, Nat.min_eq_right (by omega), List.take_of_length_le (l := enc x) (by rw [he]; omega)];rw [show xs.length * size - i * size - size = xs.length * size - (i * size + size) by omega]
theorem zbz.slice {w : World} {base : Nat} {v : Value} {l : List P3} (h : zbz w base v l) : ∃ a cap, v = G a l.length cap := by
 obtain ⟨a, cap, e, _⟩ := h.parts;exact ⟨a, cap, e⟩
theorem zkw : ∀ (b : List Nat) (k u : Nat), (zd9 k u b).2.1 ≤ k + b.length
 | [], k, u => by simp [zd9]
 | c :: t, k, u => by
  have ih := zkw t (k + 1);unfold zd9
  split
  ·simp
  split
  ·have := ih (u + c % 128 * 128 ^ k); simp; omega
  split
  ·simp
  ·simp
theorem getB_le (b : List Nat) : (zt b).2.1 ≤ b.length := by have := zkw b 0 0; simpa [zt] using this
def StAt (w : World) (N : Nat) (st : List Nat × Int) : Prop :=
 ∃ b o cap, Blk w (N + 1) #[G (some ⟨b, o, U⟩) st.1.length cap] 95 ∧ Blk w (N + 2) #[E J st.2] 32 ∧ b < N ∧ st.1.length ≤ cap ∧ cap ≤ 9223372036854775807 ∧ Byt st.1 ∧
  ∀ i (h : i < st.1.length), w.cell? ⟨b, o + i, U⟩ = some (E .u8 (st.1[i] : Nat))
def Two (N k : Nat) : Prop := k = N + 1 ∨ k = N + 2
theorem zne {w w' : World} {base : Nat} {e : TypeId} {size : Nat} {v : Value} {n : Nat} {xs : List Value} (h : w.ownsRow base e size v n xs) {R : Nat → Prop} (hk : zg R w w') (hR : ∀ j, base ≤ j → v.ownBlock = some j → ¬ R j) : w'.ownsRow base e size v n xs := by
 refine ⟨h.1, ?_⟩;rcases h.2 with h0 | ⟨g, cap, cur, hv, hg, hh, jj⟩
 ·exact Or.inl h0
 ·refine Or.inr ⟨g, cap, cur, hv, hg, ?_, jj⟩
  have hlt : g < w.heap.size := by
   rcases Nat.lt_or_ge g w.heap.size with h' | h'
   ·exact h'
   ·rw [Array.getElem?_eq_none h'] at hh; cases hh
  rw [hk.block hlt (hR g hg (by rw [hv]; rfl))]; exact hh
theorem zbz.keep {w w' : World} {base : Nat} {v : Value} {l : List P3} (h : zbz w base v l) {R : Nat → Prop} (hk : zg R w w') (hR : ∀ j, base ≤ j → v.ownBlock = some j → ¬ R j) : zbz w' base v l := zne h hk hR
theorem zbz.block {w : World} {base : Nat} {v : Value} {l : List P3} (h : zbz w base v l) {j : Nat} (hj : v.ownBlock = some j) : base ≤ j ∧ j < w.heap.size := by
 rcases h.2 with ⟨hv, _⟩ | ⟨g, cap, cur, hv, hg, hh, _⟩
 ·rw [hv] at hj; cases hj
 ·rw [hv] at hj; cases hj
  rcases Nat.lt_or_ge g w.heap.size with h' | h'
  ·exact ⟨hg, h'⟩
  ·rw [Array.getElem?_eq_none h'] at hh; cases hh
theorem zbz.base {w : World} {base base' : Nat} {v : Value} {l : List P3} (h : zbz w base v l) (hb : base' ≤ base) : zbz w base' v l := by
 refine ⟨h.1, ?_⟩;rcases h.2 with h0 | ⟨g, cap, cur, hv, hg, jj⟩
 ·exact Or.inl h0
 ·exact Or.inr ⟨g, cap, cur, hv, by omega, jj⟩
theorem StAt.keep {w w' : World} {N : Nat} {st : List Nat × Int} (h : StAt w N st) {R : Nat → Prop} (hk : zg R w w') (hR : ∀ j, R j → N ≤ j ∧ j ≠ N + 1 ∧ j ≠ N + 2) : StAt w' N st := by
 obtain ⟨b, o, cap, hr, he, hbN, jZ, hmax, hbyt, hc⟩ := h;refine ⟨b, o, cap, hr.keep hk fun x => (hR _ x).2.1 rfl, he.keep hk fun x => (hR _ x).2.2 rfl, hbN, jZ, hmax, hbyt, fun i hi => ?_⟩;rw [hk.cell (by have := hr.lt; omega) fun x => by have := (hR _ x).1; omega];exact hc i hi
theorem StAt.size {w : World} {N : Nat} {st : List Nat × Int} (h : StAt w N st) : N + 2 < w.heap.size := by
 obtain ⟨b, o, cap, hr, he, _⟩ := h;exact he.lt
def zfo (w w' : World) (N : Nat) (st : List Nat × Int) (k d h : Int) (v : Value) : Prop :=
 StAt w' N st ∧ Blk w' (N + 3) #[E J k, E J d, E J h, v] 43 ∧ Blk w' N #[E J 0, E J 0, E J 0, G U 0 0] 43 ∧ Z N w w'
theorem zfo.keep {w w' w'' : World} {N : Nat} {st : List Nat × Int} {k d h : Int} {v : Value} (hm : zfo w w' N st k d h v) {R : Nat → Prop} (hk : zg R w' w'') (hR : ∀ j, R j → N + 4 ≤ j) : zfo w w'' N st k d h v := by
 have hs := hm.1.size;exact ⟨hm.1.keep hk fun j hj => by have := hR j hj; omega, hm.2.1.keep hk fun x => by have := hR _ x; omega, hm.2.2.1.keep hk fun x => by have := hR _ x; omega, hm.2.2.2.trans (hk.below (by omega) fun j hj => by have := hR j hj; omega)⟩
theorem zfo.take {w w' w'' : World} {N : Nat} {st st' : List Nat × Int} {k d h : Int} {v : Value} (hm : zfo w w' N st k d h v) (hs : StAt w'' N st') (hk : zg (Two N) w' w'') : zfo w w'' N st' k d h v := by
 have h2 := hm.1.size;exact ⟨hs, hm.2.1.keep hk (by unfold Two; omega), hm.2.2.1.keep hk (by unfold Two; omega), hm.2.2.2.trans (hk.below (by omega) fun j hj => by unfold Two at hj; omega)⟩
theorem zfo.put {w w' : World} {N : Nat} {st : List Nat × Int} {k d h k' d' h' : Int} {v v' : Value} (hm : zfo w w' N st k d h v) (i : Nat) (u : Value) (e : (#[E J k, E J d, E J h, v] : Array Value).setIfInBounds i u = #[E J k', E J d', E J h', v']) : zfo w (r w' ⟨N + 3, i, U⟩ u) N st k' d' h' v' := by
 have hk : zg (fun j => j = N + 3) w' (r w' ⟨N + 3, i, U⟩ u) := (zg.refl (fun j => j = N + 3) w').setCell rfl _;have h2 := hm.1.size;refine ⟨hm.1.keep hk fun j hj => by omega, ?_, hm.2.2.1.keep hk (by omega), hm.2.2.2.trans (hk.below (by omega) fun j hj => by omega)⟩;have := hm.2.1.set i u;rw [e] at this;exact this
theorem zno {w : World} {a : Option Addr} {l : List Nat} (h : zdj w a l) (k : Nat) : zdj w a (l.take k) := by
 rcases h with rfl | ⟨b, o, rfl, hlt, hc⟩
 ·exact Or.inl (by simp)
 ·refine Or.inr ⟨b, o, rfl, hlt, fun i hi => ?_⟩
  have hi' : i < l.length := by simp at hi; omega
  rw [List.getElem_take];exact hc i hi'
theorem byt_take {l : List Nat} (h : Byt l) (k : Nat) : Byt (l.take k) := fun c hc => h c (List.mem_of_mem_take hc)
theorem zbz.le {w : World} {base : Nat} {v : Value} {l : List P3} (h : zbz w base v l) : l.length ≤ 9223372036854775807 := by
 rcases h.2 with ⟨_, h0⟩ | ⟨g, cap, cur, hv, hg, hh, h1, h2, _⟩
 ·omega
 ·unfold maxLen at h2; omega
theorem put4 {W : World} {N : Nat} {c0 c1 c2 c3 : Value} {t : TypeId} (hb : Blk W N #[c0, c1, c2, c3] t) (v0 v1 v2 v3 : Value) :
  Blk (r (r (r (r W ⟨N, 0, U⟩ v0) ⟨N, 1, U⟩ v1) ⟨N, 2, U⟩ v2) ⟨N, 3, U⟩ v3) N #[v0, v1, v2, v3] t ∧
  zg (fun q => q = N) W (r (r (r (r W ⟨N, 0, U⟩ v0) ⟨N, 1, U⟩ v1) ⟨N, 2, U⟩ v2) ⟨N, 3, U⟩ v3) :=
 ⟨(((hb.set 0 _).set 1 _).set 2 _).set 3 _, ((((zg.refl (fun q => q = N) W).setCell rfl _).setCell rfl _).setCell rfl _).setCell rfl _⟩
theorem zdn.len {w : World} {base : Nat} {v : Value} {bs : List (List Nat)} (h : zdn w base v bs) : ∃ X : List XN, X.length = bs.length ∧ zd 95 1 zch w base v X ∧ X.map (·.2) = bs ∧ (∀ x ∈ X, zdt base w x.1.1 x.2) ∧ ∀ x ∈ X, x.2.length ≤ x.1.2 ∧ x.1.2 ≤ maxLen := by
 obtain ⟨X, h1, h2, h3, h4⟩ := h;exact ⟨X, by rw [← h2, List.length_map], h1, h2, h3, h4⟩
theorem zj.keep {t : TypeId} {R : Nat → Prop} {w w' : World} (hk : zg R w w') (hR : ∀ b, R b → ∃ cs t', Blk w b cs t' ∧ t' ≠ t) : zj t w w' := fun b cs x => x.keep hk (fun hb => by
 obtain ⟨cs', t', h1, h2⟩ := hR b hb;unfold Blk at h1 x
 rw [x] at h1;injection h1 with h1
 injection h1 with _ q _
 exact h2 q.symm)
theorem zd.set4 {α : Type} {e zV : TypeId} {size : Nat} {enc : α → List Value} {w : World} {base N : Nat} {v : Value} {xs : List α} {c0 c1 c2 c3 : Value} (h : zd e size enc w base v xs) (hz : Blk w N #[c0, c1, c2, c3] zV) (hT : zV ≠ e) (v0 v1 v2 v3 : Value) : zd e size enc (r (r (r (r w ⟨N, 0, U⟩ v0) ⟨N, 1, U⟩ v1) ⟨N, 2, U⟩ v2) ⟨N, 3, U⟩ v3) base v xs :=
 (((h.setOther (a := ⟨N, 0, U⟩) hz hT _).setOther (a := ⟨N, 1, U⟩) (hz.set 0 _) hT _).setOther (a := ⟨N, 2, U⟩) ((hz.set 0 _).set 1 _) hT _).setOther (a := ⟨N, 3, U⟩) (((hz.set 0 _).set 1 _).set 2 _) hT _
theorem zj.set4 {t zV : TypeId} {w : World} {N : Nat} {c0 c1 c2 c3 : Value} (hz : Blk w N #[c0, c1, c2, c3] zV) (hT : zV ≠ t) (v0 v1 v2 v3 : Value) : zj t w (r (r (r (r w ⟨N, 0, U⟩ v0) ⟨N, 1, U⟩ v1) ⟨N, 2, U⟩ v2) ⟨N, 3, U⟩ v3) :=
 (((zj.setCell (a := ⟨N, 0, U⟩) hz hT _).trans (zj.setCell (a := ⟨N, 1, U⟩) (hz.set 0 _) hT _)).trans (zj.setCell (a := ⟨N, 2, U⟩) ((hz.set 0 _).set 1 _) hT _)).trans (zj.setCell (a := ⟨N, 3, U⟩) (((hz.set 0 _).set 1 _).set 2 _) hT _)
structure HrS (w0 : World) (mk md mh : Int) (mv : Value) (bt nx : Int) (N7 : Nat) (w : World) (a2 : Option Addr) (n2 c2 : Nat) (Y2 : List XL) (L : List R3) (a3 : Option Addr) (n3 c3 : Nat) (X2 : List XO) (O : List O4) : Prop where
 mb : Blk w (w0.heap.size + 1) #[E J mk, E J md, E J mh, mv] 43
 rb : Blk w (w0.heap.size + 2) #[G U 0 0, E J 0, E J 0, G U 0 0] 29
 ob : Blk w N7 #[G a2 n2 c2, E J bt, E J nx, G a3 n3 c3] 29
 hd : zbh w (w0.heap.size + 3) a2 n2 c2 Y2 a3 n3 c3 X2 L O
 he : zb1 w (w0.heap.size + 3) X2
 bel : Z w0.heap.size w0 w
 ne : w0.heap.size + 3 ≤ N7
section
variable {w0 w w' : World} {mk md mh : Int} {mv : Value} {bt nx : Int} {N7 : Nat} {a2 : Option Addr} {n2 c2 : Nat} {Y2 : List XL} {L : List R3} {a3 : Option Addr} {n3 c3 : Nat} {X2 : List XO} {O : List O4}
theorem HrS.below (H : HrS w0 mk md mh mv bt nx N7 w a2 n2 c2 Y2 L a3 n3 c3 X2 O) (hb : Z w.heap.size w w') : HrS w0 mk md mh mv bt nx N7 w' a2 n2 c2 Y2 L a3 n3 c3 X2 O :=
 ⟨H.mb.below hb H.mb.lt, H.rb.below hb H.rb.lt, H.ob.below hb H.ob.lt, H.hd.below hb, H.he.below hb, H.bel.trans (hb.mono H.bel.size), H.ne⟩
theorem zd.keepK {α : Type} {e : TypeId} {size : Nat} {enc : α → List Value} {w w' : World} {base : Nat} {v : Value} {xs : List α} (h : zd e size enc w base v xs) {R : Nat → Prop} (hk : zg R w w') (hR : ∀ b, v.ownBlock = some b → ¬ R b) : zd e size enc w' base v xs := by
 refine ⟨h.1, ?_⟩;rcases h.2 with ⟨hv, h0⟩ | ⟨g, cap, cur, hv, hg, hh, jZ, hmx, hsz, qJ⟩
 ·exact Or.inl ⟨hv, h0⟩
 ·refine Or.inr ⟨g, cap, cur, hv, hg, ?_, jZ, hmx, hsz, qJ⟩
  exact Blk.keep (show Blk w g cur e from hh) hk (hR g (by rw [hv]; rfl))
theorem HrS.del (H : HrS w0 mk md mh mv bt nx N7 w a2 n2 c2 Y2 L a3 n3 c3 X2 O) {w5 : World} {i : Nat} (hk : zg (fun q => Value.ownBlock (G a3 n3 c3) = some q) w w5) {a5 : Option Addr} {n5 c5 : Nat} (ho : zd 38 4 zan w5 (w0.heap.size + 3) (G a5 n5 c5) (X2.eraseIdx i)) :
  HrS w0 mk md mh mv bt nx N7 (r w5 ⟨N7, 3, U⟩ (G a5 n5 c5)) a2 n2 c2 Y2 L a5 n5 c5 (X2.eraseIdx i) (O.eraseIdx i) := by
 have hT : ∀ (t : TypeId), t ≠ 38 → ∀ b, Value.ownBlock (G a3 n3 c3) = some b → ∃ cs t', Blk w b cs t' ∧ t' ≠ t := fun t ht b hb => by
  obtain ⟨_, cs, hB⟩ := H.hd.opn.blk hb;exact ⟨cs, _, hB, fun e => ht e.symm⟩
 have hcP : zj 49 w w5 := zj.keep hk (hT _ (by decide));have hcI : zj 3 w w5 := zj.keep hk (hT _ (by decide));have hcH : zj 29 w w5 := zj.keep hk (hT _ (by decide));have hcM : zj 43 w w5 := zj.keep hk (hT _ (by decide));have o5 := hcH _ _ H.ob;have hne := H.ne
 have hlog : zd 68 3 zaj w5 (w0.heap.size + 3) (G a2 n2 c2) Y2 := H.hd.log.1.keepK hk (fun b hb hq => by
  obtain ⟨_, cs, hB⟩ := H.hd.log.1.blk hb
  exact absurd hq (H.hd.opn.neT hB (by decide)))
 have hd5 : zbh w5 (w0.heap.size + 3) a2 n2 c2 Y2 a5 n5 c5 (X2.eraseIdx i) L (O.eraseIdx i) := ⟨⟨hlog, fun y hy => (H.hd.log.2 y hy).calm hcP⟩, H.hd.says, ho, by rw [← H.hd.osays, List.eraseIdx_eq_take_drop_succ, List.eraseIdx_eq_take_drop_succ, kab, List.map_take, List.map_drop], fun x hx => ⟨(H.hd.op x (kad hx)).1.calm hcP, (H.hd.op x (kad hx)).2.calm hcI⟩⟩
 have he5 : zb1 w5 (w0.heap.size + 3) (X2.eraseIdx i) := ⟨fun x hx => (H.he.own x (kad hx)).keepK hk (fun b hb hq => by
  obtain ⟨_, cs, hB⟩ := (H.he.own x (kad hx)).blk hb
  exact absurd hq (H.hd.opn.neT hB (by decide))), H.he.ne.sublist (List.eraseIdx_sublist _ _)⟩
 exact ⟨(hcM _ _ H.mb).setOther (a := ⟨N7, 3, U⟩) (by simp; omega) _, (hcH _ _ H.rb).setOther (a := ⟨N7, 3, U⟩) (by simp; omega) _, o5.set 3 _, hd5.set o5 (by decide) (by decide) (by decide) (by decide) _, he5.set o5 (by decide) _, (H.bel.trans (hk.below H.bel.size (fun b hb => by have h1 := H.hd.opn.base _ hb; omega))).setCell (by simp; omega) _, hne⟩
theorem HrS.ret (H : HrS w0 mk md mh mv bt nx N7 w a2 n2 c2 Y2 L a3 n3 c3 X2 O) :
  (∀ R : Nat → Prop, (∀ b, R b → b < w0.heap.size) → zy R (r (r (r (r w ⟨w0.heap.size + 2, 0, U⟩ (G a2 n2 c2)) ⟨w0.heap.size + 2, 1, U⟩ (E J bt)) ⟨w0.heap.size + 2, 2, U⟩ (E J nx)) ⟨w0.heap.size + 2, 3, U⟩ (G a3 n3 c3)) (.agg #[G a2 n2 c2, E J bt, E J nx, G a3 n3 c3]) ⟨L, bt, nx, O⟩) ∧
  Z w0.heap.size w0 (r (r (r (r w ⟨w0.heap.size + 2, 0, U⟩ (G a2 n2 c2)) ⟨w0.heap.size + 2, 1, U⟩ (E J bt)) ⟨w0.heap.size + 2, 2, U⟩ (E J nx)) ⟨w0.heap.size + 2, 3, U⟩ (G a3 n3 c3)) ∧
  Blk (r (r (r (r w ⟨w0.heap.size + 2, 0, U⟩ (G a2 n2 c2)) ⟨w0.heap.size + 2, 1, U⟩ (E J bt)) ⟨w0.heap.size + 2, 2, U⟩ (E J nx)) ⟨w0.heap.size + 2, 3, U⟩ (G a3 n3 c3)) (w0.heap.size + 2) #[G a2 n2 c2, E J bt, E J nx, G a3 n3 c3] 29 := by
 have z := H.rb;have hk4 := zct z (G a2 n2 c2) (E J bt) (E J nx) (G a3 n3 c3);have hO := (((((H.hd.mono (by omega : w0.heap.size ≤ w0.heap.size + 3)).set z (by decide) (by decide) (by decide) (by decide) (G a2 n2 c2) (i := 0)).set (z.set 0 _) (by decide) (by decide) (by decide) (by decide) (E J bt) (i := 1)).set ((z.set 0 _).set 1 _) (by decide) (by decide) (by decide) (by decide) (E J nx) (i := 2)).set (((z.set 0 _).set 1 _).set 2 _) (by decide) (by decide) (by decide) (by decide) (G a3 n3 c3) (i := 3));exact ⟨fun R hR => hO.v (g := ⟨L, bt, nx, O⟩) hR rfl rfl, H.bel.trans (hk4.2.below H.bel.size (fun b hb => by omega)), hk4.1⟩
end
end Go.Proofs.Ytpcnlifmkhagkaa
