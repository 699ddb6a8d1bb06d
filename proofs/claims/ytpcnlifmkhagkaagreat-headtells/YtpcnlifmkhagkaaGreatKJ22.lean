import Derived.Test.YtpcnlifmkhagkaaGreatKRefZ
set_option maxRecDepth 20000
set_option maxHeartbeats 20000000
namespace Go.Proofs.YtpcnlifmkhagkaaGreat
open Go.RowKit
open Value renaming slice → G, int → E
open IntKind renaming i64 → J
open Option renaming none → U
open Obj renaming cells → T
open Go renaming Hid → Q, Below → Z
open Nat renaming le_refl → kaa
open List renaming mem_append → kab
attribute [local go_sem ↓] Go.wp_at_zero Go.wp_at_succ
def ze8 (m : Q4) : Prop := (-9223372036854775808 ≤ m.2.1 ∧ m.2.1 ≤ 9223372036854775807) ∧ (-9223372036854775808 ≤ m.2.2.1 ∧ m.2.2.1 ≤ 9223372036854775807) ∧ Nums m.2.2.2 ∧ m.2.2.2.length ≤ 1000000
def sendN (bs : List (List Nat)) (ms : List Q4) : List (List Nat) := bs ++ (ms.map fun m => zat m).take (24 - bs.length)
theorem zgu (net ms : List Q4) : sendN (net.map fun m => zat m) ms = (zbr net ms).map fun m => zat m := by
 unfold sendN zbr
 rw [List.map_append, List.map_take, List.length_map]
structure SentF (R : Nat → Prop) (w w' : World) (base : Nat) (v : Value) (X jz : List XN) (zs : List (List Nat)) : Prop where
 own : za 113 1 zcf w' base v (X ++ jz)
 says : jz.map (·.2) = zs
 bytes : ∀ z ∈ jz, zdn base w' z.1.1 z.2
 caps : ∀ z ∈ jz, z.2.length ≤ z.1.2 ∧ z.1.2 ≤ maxLen
 bel : Z w.heap.size w w'
theorem SentF.net {R : Nat → Prop} {w w' : World} {base : Nat} {a : Option Addr} {n c : Nat} {X jz : List XN} {bs zs : List (List Nat)} (H : SentF R w w' base (G a n c) X jz zs) (hX : X.map (·.2) = bs) (hb : ∀ x ∈ X, zew R w x.1.1 x.2) (hcp : ∀ x ∈ X, x.2.length ≤ x.1.2 ∧ x.1.2 ≤ maxLen) (hR : ∀ b, R b → b < base) : zbp R w' a n (X ++ jz) (bs ++ zs) := by
 have h1 := H.own.at zcj;refine ⟨h1.2.1, h1.1, H.own.outR hR _, by rw [List.map_append, hX, H.says], fun x hx => ?_, fun x hx => (kab.1 hx).elim (hcp x) (H.caps x)⟩;rcases kab.1 hx with hx | hx
 · exact (hb x hx).below H.bel
 · exact (H.bytes x hx).outR hR
theorem zgf (R : Nat → Prop) (na ma : Option Addr) (nn nc mn mc : Nat) (X : List XN) (bs : List (List Nat)) (zX : List XM) (ms : List Q4) (w : World) (hR : ∀ b, R b → b < w.heap.size) (hN : zbp R w na nn X bs) (hM : zeo R w ma mn zX ms) (hl : X.length ≤ 1000000) (hml : ms.length ≤ 9223372036854775807) (h64 : ∀ m ∈ ms, ze8 m) :
  Calls Tryz.prog 68 #[G na nn nc, G ma mn mc] w fun e w' => ∃ v', e = .returned v' ∧ (∃ a n c Y, v' = G a n c ∧ n ≤ c ∧ zbp R w' a n Y (sendN bs ms)) ∧ Z w.heap.size w w' := by
 have HN : Q (zbp R w na nn X bs ∧ zeo R w ma mn zX ms ∧ (∀ m ∈ ms, ze8 m) ∧ (∀ b, R b → b < w.heap.size) ∧ zX.length = ms.length ∧ X.length = bs.length) := ⟨hN, hM, h64, hR, by rw [← hM.says, List.length_map], by rw [← hN.says, List.length_map]⟩;have hmn : mn ≤ 9223372036854775807 := by have h1 := hM.n; have h2 := HN.out.2.2.2.2.1; omega
 have hmu : Q (mn = zX.length ∧ mn = ms.length) := ⟨hM.n, by have h1 := hM.n; have h2 := HN.out.2.2.2.2.1; omega⟩;clear hN hM h64 hR hml;go_enter Tryz.func68, Tryz.ntmps68
 go_wp2_with (at_builtin; refine zbi zcj oneN Tryz.underlying63 zfc rfl (by decide) _ rfl _ _ rfl w.heap.size (G (some ⟨w.heap.size, 0, U⟩) 0 0) [] rfl (za.made0 (Blk.new _ _ _) (kaa _)) na nn nc X rfl HN.out.1.n (HN.out.1.row.below (zh w _)) (by unfold maxLen; simp; omega) (by simp; omega) (by simp) ?_; intro a4 n4 c4 w4 hown4 hn4 hgrow4 hat4; clear hn4)
 have hS4 : SentF R w w4 w.heap.size (G a4 n4 c4) X [] [] := ⟨by rw [List.append_nil]; exact hown4, rfl, (fun z hz => by cases hz), (fun z hz => by cases hz), (zh w _).grown hgrow4 (by simp) (fun k hk => by cases hk; exact kaa _)⟩;have HS4 := zA hS4;clear hown4 hgrow4 hat4 hS4;go_wp2;go_loopw [0, 5] (fun v i w' => ∃ (k : Nat) (jz : List XN), k ≤ mn ∧ i = E J k ∧ jz.length = k ∧ (k = 0 ∨ X.length + k ≤ 24) ∧ Q (SentF R w w' w.heap.size v X jz ((ms.take k).map fun m => zat m))) (fun _ i _ => mn - (intOf i).toNat)
 case atStart => exact ⟨0, [], Nat.zero_le _, rfl, rfl, Or.inl rfl, HS4.out⟩
 case round =>
  obtain ⟨k, jz, hk, rfl, hZl, hroom, hH⟩ := hrel;obtain ⟨av, nv, cv, rfl⟩ := hH.out.own.slice zcj;have hnv : Q (nv = X.length + k) := by have := (hH.out.own.at zcj).2.1; rw [List.length_append, hZl] at this; exact this
  by_cases hlt : k < mn
  · by_cases h24 : nv < 24
   · have hkU : k < zX.length := by have := hmu.out.1; omega
    have hkM : k < ms.length := by have := hmu.out.2; omega
    have hMk : ms[k] = zch zX[k] := by
     have : ms = zX.map zch := HN.out.2.1.says.symm;subst this;rw [List.getElem_map]
    have HE : Q ((ms.take (k + 1)).map (fun m => zat m) = (ms.take k).map (fun m => zat m) ++ [zat (zch zX[k])]) := by
     show _ = _
     rw [zaw hkM, List.map_append, hMk]; rfl
    obtain ⟨g1, g2, g3, g4⟩ := HN.out.2.2.1 ms[k] (List.getElem_mem hkM);rw [hMk] at g1 g2 g3 g4;have hq := (HN.out.2.1.parts _ (List.getElem_mem hkU)).1.below hH.out.bel;rcases HN.out.2.1.row.below hH.out.bel with h0 | ⟨g, o, rfl, hg, hc⟩
    · rw [h0] at hkU; simp at hkU
    have d0 := hc k hkU 0 _ rfl;have d1 := hc k hkU 1 _ rfl;have d2 := hc k hkU 2 _ rfl;have d3 := hc k hkU 3 _ rfl;have hsz := hH.out.bel.size;clear hc;generalize hU : zX[k] = x at *;clear hMk hU;obtain ⟨kd, dd, hs, ⟨ax, cx⟩, l⟩ := x;simp only [zch, Nat.add_zero] at d0 d1 d2 d3 hq g1 g2 g3 g4 HE
    obtain ⟨ln, HLL⟩ : ∃ ln, Q (l.length = ln) := ⟨_, rfl⟩;rw [HLL.out] at d3;have HQ := zD hq g3 g4 hH.out;have hlen : (X ++ jz).length ≤ 23 := by rw [List.length_append, hZl]; have := hnv.out; omega
    clear hq g3 g4 hH hnv;go_wp2_with fail
    refine (znu kd dd hs ax l cx ln wr HLL.out.symm HQ.out.2.2.1 HQ.out.1 g1 g2 HQ.out.2.1).mono ?_;rintro e w5 ⟨v5, rfl, hB5, hb5⟩;obtain ⟨a5, c5, rfl, hT5, hcp5⟩ := hB5.typed;have HT5 := zC hT5 hb5 hcp5;have hs5 := hb5.size;clear hB5 hT5 hb5 hcp5 d0 d1 d2 d3 g1 g2;go_wp2_with (at_builtin; refine zbi zcj oneN Tryz.underlying63 zfc rfl (by decide) _ rfl _ _ rfl w.heap.size (G av nv cv) (X ++ jz) rfl ((HQ.out.2.2.2.own.below HT5.out.2.1 (kaa _)).below (zh w5 _) (kaa _)) (some ⟨w5.heap.size, 0, U⟩) 1 1 [((a5, c5), zat (kd, dd, hs, l))] rfl rfl (zi.one (Blk.new w5 _ _) rfl) (by unfold maxLen; simp; simp at hlen; omega) (by simp; simp at hlen; omega) (by simp; omega) ?_; intro a6 n6 c6 w6 hown6 hn6 hgrow6 hat6; clear hn6)
    have hoW := (HQ.out.2.2.2.own.below HT5.out.2.1 (kaa _)).below (zh w5 (T #[G a5 (zat (kd, dd, hs, l)).length c5] 113)) (kaa _)
    have HF : Q (SentF R w w6 w.heap.size (G a6 n6 c6) X (jz ++ [((a5, c5), zat (kd, dd, hs, l))]) ((ms.take (k + 1)).map fun m => zat m)) := by
     have hC : zg 5 w5 w6 := (zg.alloc _ _ _).trans (zg.grown hgrow6 (hoW.grownT (by decide)));refine ⟨by rw [← List.append_assoc]; exact hown6, by rw [List.map_append, HQ.out.2.2.2.says, HE.out]; rfl, fun z hz => ?_, fun z hz => (kab.1 hz).elim (HQ.out.2.2.2.caps z) (fun h => by rw [List.mem_singleton.1 h]; exact HT5.out.2.2), ((HQ.out.2.2.2.bel.trans (HT5.out.2.1.mono hsz)).alloc (by omega) _).grown hgrow6 (by simp; omega) HQ.out.2.2.2.own.base⟩;rcases kab.1 hz with hz | hz
     · exact ((HQ.out.2.2.2.bytes z hz).calm (zg.below HT5.out.2.1 (kaa _))).calm hC
     · rw [List.mem_singleton.1 hz]; exact (HT5.out.1.mono hsz).calm hC
    have hZ2 : (jz ++ [(((a5, c5), zat (kd, dd, hs, l)) : XN)]).length = k + 1 := by rw [List.length_append, hZl]; rfl
    have hr2 : X.length + (k + 1) ≤ 24 := by rw [List.length_append, hZl] at hlen; omega
    clear hoW hown6 hgrow6 hat6;go_wp2;go_roundw
    case rel => exact ⟨k + 1, _, by omega, by go_num, hZ2, Or.inr hr2, HF⟩
    case measure => simp [intOf]; omega
   · have HF : Q ((nv ≤ cv ∧ zbp R wr av nv (X ++ jz) (sendN bs ms)) ∧ Z w.heap.size w wr) := by
     have hq := hH.out.net HN.out.1.says HN.out.1.bytes HN.out.1.caps HN.out.2.2.2.1
     have e : (ms.take k).map (fun m => zat m) = (ms.map fun m => zat m).take (24 - bs.length) := by
      rw [← List.map_take];have h1 := HN.out.2.2.2.2.2;have h2 := hnv.out;have : k = 24 - bs.length := by omega
      rw [this]
     rw [e] at hq;exact ⟨⟨by have h1 := hH.out.own.at zcj; omega, hq⟩, hH.out.bel⟩
    have h24' : ¬ ((nv : Int) < 24) := by omega
    clear hH hnv;go_wp2;go_ret;exact ⟨_, rfl, ⟨av, nv, cv, rfl, HF.out.1.1, _, HF.out.1.2⟩, HF.out.2⟩
  · have HF : Q ((nv ≤ cv ∧ zbp R wr av nv (X ++ jz) (sendN bs ms)) ∧ Z w.heap.size w wr) := by
    have hq := hH.out.net HN.out.1.says HN.out.1.bytes HN.out.1.caps HN.out.2.2.2.1
    have e : (ms.take k).map (fun m => zat m) = (ms.map fun m => zat m).take (24 - bs.length) := by
     have h3 := hmu.out.2;have h1 := HN.out.2.2.2.2.2;rw [List.take_of_length_le (by omega), List.take_of_length_le (by rw [List.length_map]; omega)]
    rw [e] at hq;exact ⟨⟨by have h1 := hH.out.own.at zcj; omega, hq⟩, hH.out.bel⟩
   clear hH hnv;go_wp2;go_ret;exact ⟨_, rfl, ⟨av, nv, cv, _, rfl, HF.out.1.1, HF.out.1.2⟩, HF.out.2⟩
def zdk (w : World) (base : Nat) (v : Value) (bs : List (List Nat)) : Prop :=
 ∃ X : List XN, za 113 1 zcf w base v X ∧ X.map (·.2) = bs ∧ (∀ x ∈ X, zdn base w x.1.1 x.2) ∧ ∀ x ∈ X, x.2.length ≤ x.1.2 ∧ x.1.2 ≤ maxLen
theorem zdk.nil (w : World) (base : Nat) : zdk w base (G U 0 0) [] := ⟨[], za.nil _ _, rfl, (fun x hx => by cases hx), fun x hx => by cases hx⟩
theorem zdk.below {w w' : World} {base : Nat} {v : Value} {bs : List (List Nat)} (h : zdk w base v bs) (hb : Z w.heap.size w w') : zdk w' base v bs := by
 obtain ⟨X, h1, h2, h3, h4⟩ := h;exact ⟨X, h1.below hb (kaa _), h2, fun x hx => (h3 x hx).calm (zg.below hb (kaa _)), h4⟩
theorem zdk.mono {w : World} {base base' : Nat} {v : Value} {bs : List (List Nat)} (h : zdk w base v bs) (hb : base' ≤ base) : zdk w base' v bs := by
 obtain ⟨X, h1, h2, h3, h4⟩ := h;exact ⟨X, h1.mono hb, h2, fun x hx => (h3 x hx).mono hb, h4⟩
theorem zdk.f {w : World} {base : Nat} {v : Value} {bs : List (List Nat)} (h : zdk w base v bs) {R : Nat → Prop} (hR : ∀ b, R b → b < base) : ∃ a n c X, v = G a n c ∧ n = bs.length ∧ zbp R w a n X bs := by
 obtain ⟨X, h1, h2, h3, h4⟩ := h;obtain ⟨a, c, rfl, hr, _, _⟩ := h1.row zcj;exact ⟨a, _, c, X, rfl, by rw [← h2, List.length_map], ⟨rfl, hr, h1.outR hR _, h2, fun x hx => (h3 x hx).outR hR, h4⟩⟩
theorem zdk.slice {w : World} {base : Nat} {v : Value} {bs : List (List Nat)} (h : zdk w base v bs) : ∃ a c, v = G a bs.length c := by
 obtain ⟨X, h1, h2, -, -⟩ := h;obtain ⟨a, c, rfl, -, -, -⟩ := h1.row zcj;exact ⟨a, c, by rw [← h2, List.length_map]⟩
theorem zdk.snoc {w w' w'' : World} {base : Nat} {v v'' : Value} {bs : List (List Nat)} {X : List XN} {x : XN} (hX : X.map (·.2) = bs) (h3 : ∀ x ∈ X, zdn base w x.1.1 x.2) (h4 : ∀ x ∈ X, x.2.length ≤ x.1.2 ∧ x.1.2 ≤ maxLen) (hc : zg 5 w w') (hown : za 113 1 zcf w' base v X)
  (hg : w'.grownBy w'' v.ownBlock) (hown' : za 113 1 zcf w'' base v'' (X ++ [x])) (hx : zdn base w' x.1.1 x.2) (hcp : x.2.length ≤ x.1.2 ∧ x.1.2 ≤ maxLen) : zdk w'' base v'' (bs ++ [x.2]) := by
 have hC : zg 5 w' w'' := zg.grown hg (hown.grownT (by decide));refine ⟨X ++ [x], hown', by rw [List.map_append, hX]; rfl, fun z hz => ?_, fun z hz => (kab.1 hz).elim (h4 z) (fun h => by rw [List.mem_singleton.1 h]; exact hcp)⟩;rcases kab.1 hz with hz | hz
 · exact ((h3 z hz).calm hc).calm hC
 · rw [List.mem_singleton.1 hz]; exact hx.calm hC
theorem Blk.setCells {g : Nat} {zV : TypeId} : ∀ (vs : List Value) (j : Nat) (w : World) (cur : Array Value), Blk w g cur zV → j + vs.length ≤ cur.size → Blk (w.setCells g j vs) g (cur.toList.take j ++ vs ++ cur.toList.drop (j + vs.length)).toArray zV
 | [], j, w, cur, h, _ => by
  have e : (cur.toList.take j ++ [] ++ cur.toList.drop (j + ([] : List Value).length)).toArray = cur := by simp
  rw [e];exact h
 | u :: jj, j, w, cur, h, hl => by
  rw [List.length_cons] at hl;rw [World.setCells];have h1 := Blk.setCells jj (j + 1) _ _ (h.set j u) (by simp; omega)
  have e : ((cur.setIfInBounds j u).toList.take (j + 1) ++ jj ++ (cur.setIfInBounds j u).toList.drop (j + 1 + jj.length)).toArray = (cur.toList.take j ++ (u :: jj) ++ cur.toList.drop (j + (u :: jj).length)).toArray := by
   have e1 : (cur.setIfInBounds j u).toList = cur.toList.set j u := by simp
   have e2 : (cur.toList.set j u).take (j + 1) = cur.toList.take j ++ [u] := by
    rw [List.take_set, List.take_succ_eq_append_getElem (by simp; omega)];rw [List.set_append_right _ _ (by simp; omega)];simp
    have : j - min j cur.size = 0 := by omega
    rw [this];rfl
   have e3 : (cur.toList.set j u).drop (j + 1 + jj.length) = cur.toList.drop (j + (u :: jj).length) := by
    rw [List.drop_set_of_lt (by omega)];congr 1
    simp
    omega
   rw [e1, e2, e3];simp
  rw [e] at h1;exact h1
theorem zf.setCells {R : Nat → Prop} {w : World} {g : Nat} (hg : R g) : ∀ (vs : List Value) (j : Nat) (w' : World), zf R w w' → zf R w (w'.setCells g j vs)
 | [], _, _, h => h
 | u :: jj, j, w', h => by
  rw [World.setCells];exact zf.setCells hg jj (j + 1) _ (h.setCell (p := ⟨g, j, U⟩) hg u)
theorem zon {α : Type} {enc : α → List Value} {size : Nat} (he : ∀ x, (enc x).length = size) (xs : List α) (i : Nat) (hi : i ≤ xs.length) : (zx enc xs).take (i * size) = zx enc (xs.take i) := by
 have h1 : zx enc xs = zx enc (xs.take i) ++ zx enc (xs.drop i) := by rw [← ze9, List.take_append_drop]
 have h2 : (zx enc (xs.take i)).length = i * size := by rw [zdh he, List.length_take]; congr 1; omega
 rw [h1, ← h2, List.take_left'];rfl
theorem zp1 {α : Type} {enc : α → List Value} {size : Nat} (he : ∀ x, (enc x).length = size) (xs : List α) (i : Nat) (hi : i ≤ xs.length) : (zx enc xs).drop (i * size) = zx enc (xs.drop i) := by
 have h1 : zx enc xs = zx enc (xs.take i) ++ zx enc (xs.drop i) := by rw [← ze9, List.take_append_drop]
 have h2 : (zx enc (xs.take i)).length = i * size := by rw [zdh he, List.length_take]; congr 1; omega
 rw [h1, ← h2, List.drop_left'];rfl
theorem za.putN {α : Type} {e : TypeId} {size : Nat} {enc : α → List Value} {w : World} {base g cap n i : Nat} {xs : List α} (he : ∀ x, (enc x).length = size) (h : za e size enc w base (G (some ⟨g, 0, U⟩) n cap) xs) (hi : i < xs.length) (x : α) :
  za e size enc (w.setCells g (i * size) (enc x)) base (G (some ⟨g, 0, U⟩) n cap) (xs.set i x) := by
 rcases h.2 with ⟨hv, h0⟩ | ⟨g', cap', cur, hv, hg, hh, hcap, hmx, hsz, htake⟩
 · cases hv
 cases hv;have hB : Blk w g cur e := hh;have h3 : (i + 1) * size ≤ xs.length * size := Nat.mul_le_mul_right _ hi;have h4 : xs.length * size ≤ cap * size := Nat.mul_le_mul_right _ hcap;rw [Nat.add_mul, Nat.one_mul] at h3;have hl : (xs.set i x).length = xs.length := by simp
 have hB1 := Blk.setCells (enc x) (i * size) w cur hB (by rw [he]; omega);refine ⟨by rw [zdh he], Or.inr ⟨g, cap, _, by rw [hl], hg, hB1, by rw [hl]; exact hcap, hmx, ?_, ?_⟩⟩
 · simp [he]; omega
 · have e1 : zx enc (xs.set i x) = zx enc (xs.take i) ++ enc x ++ zx enc (xs.drop (i + 1)) := by
   rw [List.set_eq_take_append_cons_drop, if_pos hi, ze9];simp [zx]
  have e2 : cur.toList.take (i * size) = zx enc (xs.take i) := by
   rw [← zon he xs i (by omega), ← htake, List.take_take, Nat.min_eq_left (by omega)]
  have e3 : (cur.toList.drop (i * size + size)).take (xs.length * size - (i * size + size)) = zx enc (xs.drop (i + 1)) := by
   rw [← zp1 he xs (i + 1) hi, ← htake, Nat.add_mul, Nat.one_mul, List.drop_take]
  rw [hl, he, e1, ← e2, ← e3];simp only [List.append_assoc]
  rw [List.take_append, List.take_append];have l1 : (cur.toList.take (i * size)).length = i * size := by simp; omega
  rw [l1, he, List.take_take, Nat.min_eq_right (by omega), List.take_of_length_le (l := enc x) (by rw [he]; omega)];rw [show xs.length * size - i * size - size = xs.length * size - (i * size + size) by omega]
theorem zby.slice {w : World} {base : Nat} {v : Value} {l : List P3} (h : zby w base v l) : ∃ a cap, v = G a l.length cap := by
 obtain ⟨a, cap, e, _⟩ := h.parts;exact ⟨a, cap, e⟩
theorem zkn : ∀ (b : List Nat) (k u : Nat), (zea k u b).2.1 ≤ k + b.length
 | [], k, u => by simp [zea]
 | c :: t, k, u => by
  have ih := zkn t (k + 1);unfold zea
  split
  · simp
  split
  · have := ih (u + c % 128 * 128 ^ k); simp; omega
  split
  · simp
  · simp
theorem getB_le (b : List Nat) : (zu b).2.1 ≤ b.length := by have := zkn b 0 0; simpa [zu] using this
def StAt (w : World) (N : Nat) (st : List Nat × Int) : Prop :=
 ∃ b o cap, Blk w (N + 1) #[G (some ⟨b, o, U⟩) st.1.length cap] 113 ∧ Blk w (N + 2) #[E J st.2] 32 ∧ b < N ∧ st.1.length ≤ cap ∧ cap ≤ 9223372036854775807 ∧ Byt st.1 ∧
  ∀ i (h : i < st.1.length), w.cell? ⟨b, o + i, U⟩ = some (E .u8 (st.1[i] : Nat))
def Two (N k : Nat) : Prop := k = N + 1 ∨ k = N + 2
end Go.Proofs.YtpcnlifmkhagkaaGreat
