import Derived.Test.YtpcnlifmkhagkaaKAJ12
set_option maxRecDepth 20000
set_option maxHeartbeats 20000000
namespace Go.Proofs.Ytpcnlifmkhagkaa
open Go.RowKit
open Go.Value renaming slice → G, int → E
open Go.IntKind renaming i64 → J
open _root_.Option renaming none → U
open Go.Obj renaming cells → T
open Go.RowKit renaming Hid → Q, Below → Z
open _root_.Nat renaming le_refl → kaa
attribute [local go_sem ↓] Go.wp_at_zero Go.wp_at_succ
def ze2 (R : Nat → Prop) (w : World) (a : Option Addr) (l : List Nat) : Prop := zdj w a l ∧ Out R a l.length
theorem ze2.keep {R : Nat → Prop} {w w' : World} {a : Option Addr} {l : List Nat} (h : ze2 R w a l) (hk : zg R w w') : ze2 R w' a l := by
 refine ⟨?_, h.2⟩;rcases h.1 with h0 | ⟨b, o, rfl, hlt, hc⟩
 ·exact Or.inl h0
 ·rcases h.2 with h0 | ho
  ·exact Or.inl (List.eq_nil_of_length_eq_zero h0)
  ·exact Or.inr ⟨b, o, rfl, Nat.lt_of_lt_of_le hlt hk.size, fun i hi => (hk.cell hlt (ho _ rfl)).trans (hc i hi)⟩
theorem ze2.below {R : Nat → Prop} {w w' : World} {a : Option Addr} {l : List Nat} (h : ze2 R w a l) (hb : Z w.heap.size w w') : ze2 R w' a l := h.keep (zdg hb)
theorem ze2.wide {R R' : Nat → Prop} {w : World} {a : Option Addr} {l : List Nat} (h : ze2 R w a l) (hR : ∀ b, R' b → R b ∨ w.heap.size ≤ b) : ze2 R' w a l := by
 refine ⟨h.1, ?_⟩;rcases h.1 with rfl | ⟨b, o, rfl, hlt, hc⟩
 ·exact Or.inl rfl
 ·rcases h.2 with h0 | ho
  ·exact Or.inl h0
  ·refine Or.inr (fun ad had hr => ?_)
   cases had;rcases hR _ hr with h | h
   ·exact ho _ rfl h
   ·have h' : w.heap.size ≤ b := h
    omega
def zdt (base : Nat) (w : World) (a : Option Addr) (l : List Nat) : Prop :=
 l = [] ∨ ∃ b o cs, a = some ⟨b, o, U⟩ ∧ base ≤ b ∧ Blk w b cs 5 ∧ ∀ i (h : i < l.length), cs[o + i]? = some (E .u8 (l[i] : Nat))
theorem zdt.mono {base base' : Nat} {w : World} {a : Option Addr} {l : List Nat} (h : zdt base w a l) (hb : base' ≤ base) : zdt base' w a l := by
 rcases h with h | ⟨b, o, cs, ha, hB, hb', hx⟩
 ·exact Or.inl h
 ·exact Or.inr ⟨b, o, cs, ha, Nat.le_trans hb hB, hb', hx⟩
theorem zdt.calm {base : Nat} {w w' : World} {a : Option Addr} {l : List Nat} (h : zdt base w a l) (hc : zj 5 w w') : zdt base w' a l := by
 rcases h with h | ⟨b, o, cs, ha, hB, hb, hx⟩
 ·exact Or.inl h
 ·exact Or.inr ⟨b, o, cs, ha, hB, hc _ _ hb, hx⟩
theorem zdt.at {base : Nat} {w : World} {a : Option Addr} {l : List Nat} (h : zdt base w a l) : zdj w a l := by
 rcases h with h | ⟨b, o, cs, ha, hB, hb, hx⟩
 ·exact Or.inl h
 ·exact Or.inr ⟨b, o, ha, hb.lt, fun i hi => (hb.cell _).trans (hx i hi)⟩
theorem zdt.outR {base : Nat} {w : World} {a : Option Addr} {l : List Nat} (h : zdt base w a l) {R : Nat → Prop} (hR : ∀ b, R b → b < base) : ze2 R w a l := by
 refine ⟨h.at, ?_⟩;rcases h with rfl | ⟨b, o, cs, rfl, hb, -, -⟩
 ·exact Or.inl rfl
 ·refine Or.inr (fun ad had hr => ?_)
  cases had;have h' : b < base := hR _ hr;omega
theorem zbp.typed {w : World} {base : Nat} {v : Value} {l : List Nat} (h : zbp w base v l) : ∃ a cap, v = G a l.length cap ∧ zdt base w a l ∧ l.length ≤ cap ∧ cap ≤ maxLen := by
 rcases h.2 with ⟨hv, h0⟩ | ⟨g, cap, cur, hv, hg, hh, jZ, hmx, hsz, qJ⟩
 ·exact ⟨U, 0, by rw [hv, h0], Or.inl (List.eq_nil_of_length_eq_zero h0), by omega, Nat.zero_le _⟩
 ·refine ⟨_, cap, hv, Or.inr ⟨g, 0, cur, rfl, hg, hh, fun i hi => ?_⟩, jZ, hmx⟩
  have hj : (zdb l)[i]? = some (E .u8 (l[i] : Nat)) := by simp [zdb, hi]
  rw [← qJ, List.getElem?_take_of_lt (by omega)] at hj;rw [Nat.zero_add]
  simpa using hj
abbrev XN := Hd × List Nat
def zch (x : XN) : List Value := [G x.1.1 x.2.length x.1.2]
theorem zcj (x : XN) : (zch x).length = 1 := rfl
theorem oneN (x : XN) : ∀ u ∈ zch x, u.oneCell' = true := by intro u hu; simp [zch] at hu; rcases hu with rfl; rfl
theorem zff : (Try.prog.info? 95).map (fun i => (i.zero, i.size, i.bytes)) = some (some (G U 0 0), 1, 24) := by kernel_rfl
structure zbs (R : Nat → Prop) (w : World) (a : Option Addr) (n : Nat) (X : List XN) (bs : List (List Nat)) : Prop where
 n : n = X.length
 row : zk 1 zch w a X
 out : Out R a X.length
 says : X.map (·.2) = bs
 bytes : ∀ x ∈ X, ze2 R w x.1.1 x.2
 caps : ∀ x ∈ X, x.2.length ≤ x.1.2 ∧ x.1.2 ≤ maxLen
theorem zbs.keep {R : Nat → Prop} {w w' : World} {a : Option Addr} {n : Nat} {X : List XN} {bs : List (List Nat)} (H : zbs R w a n X bs) (hk : zg R w w') : zbs R w' a n X bs :=
 ⟨H.n, H.row.keepR H.out hk, H.out, H.says, fun x hx => (H.bytes x hx).keep hk, H.caps⟩
theorem zbs.below {R : Nat → Prop} {w w' : World} {a : Option Addr} {n : Nat} {X : List XN} {bs : List (List Nat)} (H : zbs R w a n X bs) (hb : Z w.heap.size w w') : zbs R w' a n X bs := H.keep (zdg hb)
theorem zbs.wide {R R' : Nat → Prop} {w : World} {a : Option Addr} {n : Nat} {X : List XN} {bs : List (List Nat)} (H : zbs R w a n X bs) (hR : ∀ b, R' b → R b ∨ w.heap.size ≤ b) : zbs R' w a n X bs :=
 ⟨H.n, H.row, H.row.out H.out hR, H.says, fun x hx => (H.bytes x hx).wide hR, H.caps⟩
def NetV (R : Nat → Prop) (w : World) (v : Value) (bs : List (List Nat)) : Prop := ∃ a n c X, v = G a n c ∧ zbs R w a n X bs
theorem NetV.keep {R : Nat → Prop} {w w' : World} {v : Value} {bs : List (List Nat)} (H : NetV R w v bs) (hk : zg R w w') : NetV R w' v bs := by
 obtain ⟨a, n, c, X, hv, hf⟩ := H;exact ⟨a, n, c, X, hv, hf.keep hk⟩
theorem NetV.below {R : Nat → Prop} {w w' : World} {v : Value} {bs : List (List Nat)} (H : NetV R w v bs) (hb : Z w.heap.size w w') : NetV R w' v bs := H.keep (zdg hb)
theorem NetV.wide {R R' : Nat → Prop} {w : World} {v : Value} {bs : List (List Nat)} (H : NetV R w v bs) (hR : ∀ b, R' b → R b ∨ w.heap.size ≤ b) : NetV R' w v bs := by
 obtain ⟨a, n, c, X, hv, hf⟩ := H;exact ⟨a, n, c, X, hv, hf.wide hR⟩
theorem zbs.nil (R : Nat → Prop) (w : World) (a : Option Addr) : zbs R w a 0 [] [] := ⟨rfl, Or.inl rfl, Or.inl rfl, rfl, (fun x hx => by cases hx), (fun x hx => by cases hx)⟩
abbrev Sl := Option Addr × Nat × Nat
abbrev XH := Sl × S4 × Sl × Sl
def zd2 (x : XH) : List Value := [G x.1.1 x.1.2.1 x.1.2.2, E J x.2.1.1, E J x.2.1.2.1, E J x.2.1.2.2.1, E J x.2.1.2.2.2, G x.2.2.1.1 x.2.2.1.2.1 x.2.2.1.2.2, G x.2.2.2.1 x.2.2.2.2.1 x.2.2.2.2.2]
def zei (x : XH) : Value := .agg #[G x.1.1 x.1.2.1 x.1.2.2, E J x.2.1.1, E J x.2.1.2.1, E J x.2.1.2.2.1, E J x.2.1.2.2.2, G x.2.2.1.1 x.2.2.1.2.1 x.2.2.1.2.2, G x.2.2.2.1 x.2.2.2.2.1 x.2.2.2.2.2]
theorem lenH (x : XH) : (zd2 x).length = 7 := rfl
theorem oneH (x : XH) : ∀ u ∈ zd2 x, u.oneCell' = true := by intro u hu; simp [zd2] at hu; rcases hu with rfl | rfl | rfl | rfl | rfl | rfl | rfl <;> rfl
theorem infoHouse : (Try.prog.info? 100).map (fun i => (i.zero, i.size, i.bytes)) = some (some (.agg #[G U 0 0, E J 0, E J 0, E J 0, E J 0, G U 0 0, G U 0 0]), 7, 104) := by kernel_rfl
structure zed (R : Nat → Prop) (w : World) (a : Option Addr) (n : Nat) (X : List XH) (Ls : List (List R3)) : Prop where
 n : n = X.length
 row : zk 7 zd2 w a X
 out : Out R a X.length
 len : X.length = Ls.length
 each : ∀ i (h1 : i < X.length) (h2 : i < Ls.length), zbc R w (zei X[i]) Ls[i] (ze Ls[i])
theorem zed.keep {R : Nat → Prop} {w w' : World} {a : Option Addr} {n : Nat} {X : List XH} {Ls : List (List R3)} (H : zed R w a n X Ls) (hk : zg R w w') : zed R w' a n X Ls :=
 ⟨H.n, H.row.keepR H.out hk, H.out, H.len, fun i h1 h2 => (H.each i h1 h2).keep hk⟩
theorem zed.below {R : Nat → Prop} {w w' : World} {a : Option Addr} {n : Nat} {X : List XH} {Ls : List (List R3)} (H : zed R w a n X Ls) (hb : Z w.heap.size w w') : zed R w' a n X Ls := H.keep (zdg hb)
theorem zed.wide {R R' : Nat → Prop} {w : World} {a : Option Addr} {n : Nat} {X : List XH} {Ls : List (List R3)} (H : zed R w a n X Ls) (hR : ∀ b, R' b → R b ∨ w.heap.size ≤ b) : zed R' w a n X Ls :=
 ⟨H.n, H.row, H.row.out H.out hR, H.len, fun i h1 h2 => (H.each i h1 h2).wide hR⟩
structure zeo (R : Nat → Prop) (w : World) (la : Option Addr) (nl : Nat) (Y : List XL) (oa : Option Addr) (no : Nat) (X : List XO) (ha : Option Addr) (nh : Nat) (XHs : List XH) (na : Option Addr) (nn : Nat) (XNs : List XN) (W : WW) : Prop where
 hd : zbk R w la nl Y oa no X W.hd.log W.hd.opn
 hs : zed R w ha nh XHs W.hs
 net : zbs R w na nn XNs (W.net.map fun m => zau m)
section
variable {R R' : Nat → Prop} {w w' : World} {la : Option Addr} {nl : Nat} {Y : List XL} {oa : Option Addr} {no : Nat} {X : List XO} {ha : Option Addr} {nh : Nat} {XHs : List XH} {na : Option Addr} {nn : Nat} {XNs : List XN} {W : WW}
theorem zeo.keep (H : zeo R w la nl Y oa no X ha nh XHs na nn XNs W) (hk : zg R w w') : zeo R w' la nl Y oa no X ha nh XHs na nn XNs W := ⟨H.hd.keep hk, H.hs.keep hk, H.net.keep hk⟩
theorem zeo.below (H : zeo R w la nl Y oa no X ha nh XHs na nn XNs W) (hb : Z w.heap.size w w') : zeo R w' la nl Y oa no X ha nh XHs na nn XNs W := H.keep (zdg hb)
theorem zeo.wide (H : zeo R w la nl Y oa no X ha nh XHs na nn XNs W) (hR : ∀ b, R' b → R b ∨ w.heap.size ≤ b) : zeo R' w la nl Y oa no X ha nh XHs na nn XNs W := ⟨H.hd.wide hR, H.hs.wide hR, H.net.wide hR⟩
end
def zaf (R : Nat → Prop) (w : World) (v : Value) (W : WW) : Prop :=
 ∃ (la : Option Addr) (nl lc : Nat) (Y : List XL) (oa : Option Addr) (no oc : Nat) (X : List XO) (ha : Option Addr) (nh hc : Nat) (XHs : List XH) (na : Option Addr) (nn nc : Nat) (XNs : List XN),
  v = .agg #[G la nl lc, E J W.hd.boot, E J W.hd.next, G oa no oc, G ha nh hc, G na nn nc] ∧ nn ≤ nc ∧ zeo R w la nl Y oa no X ha nh XHs na nn XNs W
theorem zaf.keep {R : Nat → Prop} {w w' : World} {v : Value} {W : WW} (H : zaf R w v W) (hk : zg R w w') : zaf R w' v W := by
 obtain ⟨la, nl, lc, Y, oa, no, oc, X, ha, nh, hc, XHs, na, nn, nc, XNs, hv, hn, hf⟩ := H;exact ⟨la, nl, lc, Y, oa, no, oc, X, ha, nh, hc, XHs, na, nn, nc, XNs, hv, hn, hf.keep hk⟩
theorem zaf.below {R : Nat → Prop} {w w' : World} {v : Value} {W : WW} (H : zaf R w v W) (hb : Z w.heap.size w w') : zaf R w' v W := H.keep (zdg hb)
theorem zaf.wide {R R' : Nat → Prop} {w : World} {v : Value} {W : WW} (H : zaf R w v W) (hR : ∀ b, R' b → R b ∨ w.heap.size ≤ b) : zaf R' w v W := by
 obtain ⟨la, nl, lc, Y, oa, no, oc, X, ha, nh, hc, XHs, na, nn, nc, XNs, hv, hn, hf⟩ := H;exact ⟨la, nl, lc, Y, oa, no, oc, X, ha, nh, hc, XHs, na, nn, nc, XNs, hv, hn, hf.wide hR⟩
theorem zbp.lt {w : World} {base : Nat} {v : Value} {l : List Nat} (h : zbp w base v l) {j : Nat} (hj : v.ownBlock = some j) : j < w.heap.size := by
 rcases h.2 with ⟨hv, _⟩ | ⟨g, cap, cur, hv, _, hh, _⟩
 ·rw [hv] at hj; cases hj
 ·rw [hv] at hj; cases hj
  rcases Nat.lt_or_ge g w.heap.size with h' | h'
  ·exact h'
  ·rw [Array.getElem?_eq_none h'] at hh; cases hh
theorem zbp.fresh (w : World) {base n : Nat} (hb : base ≤ w.heap.size) (cs : List Nat) (hn : n = cs.length) (hl : cs.length ≤ 1000000) (vs : Array Value) (hv : vs.toList = zdb cs) : zbp (w.alloc (T vs 5)) base (G (some ⟨w.heap.size, 0, U⟩) n n) cs := by
 subst hn;refine ⟨by simp [zdb], Or.inr ⟨w.heap.size, cs.length, vs, rfl, hb, by exact heap_alloc_new w _, kaa _, by unfold maxLen; omega, ?_, ?_⟩⟩
 ·rw [← Array.length_toList, hv]; simp [zdb]
 ·rw [hv, List.take_of_length_le (by simp [zdb])]
theorem zeh.cell {w w' : World} {v v' : Value} (h : zeh w w' v v') {b o : Nat} (hb : b < w.heap.size) (hne : v.ownBlock ≠ some b) : w'.cell? ⟨b, o, U⟩ = w.cell? ⟨b, o, U⟩ :=
 h.1.cell_far ⟨b, o, U⟩ hb fun e => hne e.symm
def Nums (l : List P3) : Prop := ∀ p ∈ l, (-9223372036854775808 ≤ p.2.1 ∧ p.2.1 ≤ 9223372036854775807) ∧ -9223372036854775808 ≤ p.2.2 ∧ p.2.2 ≤ 9223372036854775807
theorem zpv {l : List P3} {k : Nat} (h : k < l.length) : zb2 (l.take (k + 1)) = zb2 (l.take k) ++ zap l[k].2.1 ++ zap l[k].2.2 := by
 rw [zax h, List.append_assoc]; simp only [zb2, List.flatMap_append, List.flatMap_cons, List.flatMap_nil, List.append_nil]
theorem ziu : ∀ l : List P3, (zb2 l).length ≤ l.length * 20
 | [] => by simp [zb2]
 | p :: t => by
  have ih := ziu t;have h1 := (zfv p.2.1).2;have h2 := (zfv p.2.2).2;have e : zb2 (p :: t) = zap p.2.1 ++ zap p.2.2 ++ zb2 t := by simp [zb2]
  rw [e]; simp; omega
theorem body_byt2 {m : M4} (hd : -9223372036854775808 ≤ m.2.1 ∧ m.2.1 ≤ 9223372036854775807) (hh : -9223372036854775808 ≤ m.2.2.1 ∧ m.2.2.1 ≤ 9223372036854775807) (hl : m.2.2.2.length ≤ 1000000) (hs : Nums m.2.2.2) : Byt (zco m) := by
 intro c hc;simp only [zco, List.mem_cons, List.mem_append, zb2, List.mem_flatMap] at hc
 rcases hc with rfl | hc | hc | hc | ⟨p, hp, hc | hc⟩
 ·omega
 ·exact zfi (by omega) (by omega) c hc
 ·exact zfi (by omega) (by omega) c hc
 ·exact zfi (by omega) (by omega) c hc
 ·have := hs p hp; exact zfi (by omega) (by omega) c hc
 ·have := hs p hp; exact zfi (by omega) (by omega) c hc
theorem zk3 (a : Option Addr) (l : List Nat) (cap n : Nat) (w : World) (hn : n = l.length) (hl : l.length ≤ 9223372036854775807) (hb : Byt l) (hp : zdj w a l) :
  Calls Try.prog 68 #[G a n cap] w fun e w' => e = .returned (E J (zce l : Nat)) ∧ w' = w := by
 subst hn;go_enter Try.func68, Try.ntmps68
 go_wp2;go_loopw [3, 7] (fun s i w' => ∃ k : Nat, k ≤ l.length ∧ i = E J k ∧ s = E J (zce (l.take k) : Nat) ∧ w' = w) (fun _ i _ => l.length - (intOf i).toNat)
 case atStart => exact ⟨0, Nat.zero_le _, rfl, rfl, rfl⟩
 case round =>
  obtain ⟨k, hk, rfl, rfl, rfl⟩ := hrel;by_cases hlt : k < l.length
  ·rcases hp with rfl | ⟨b', o, rfl, hb', hc⟩
   ·simp at hlt
   have d0 := hc k hlt;have hc256 := hb _ (List.getElem_mem hlt);have HS : Q (zce (l.take (k + 1)) = zgs (zce (l.take k)) l[k]) := by show _ = _; rw [zax hlt, sumB_snoc]
   have hs := zh4 (l.take k);clear hc hb;generalize zce (l.take k) = s at *;generalize l[k] = c at *;go_wp2;go_roundw
   case rel =>
    refine ⟨k + 1, by omega, by go_num, ?_, by trivial⟩;rw [HS.out];unfold zgs
    go_num
   case measure => simp [intOf]; omega
  ·have HA : Q (l.take k = l) := by show _ = _; rw [List.take_of_length_le (by omega)]
   clear hp hb;go_wp2;go_ret;exact ⟨by rw [HA.out]; rfl, rfl⟩
theorem zhn (n : Int) (w : World) (h1 : -9223372036854775808 ≤ n) (h2 : n ≤ 9223372036854775807) :
  Calls Try.prog 79 #[E J n] w fun e w' => ∃ v', e = .returned v' ∧ zbp w' w.heap.size v' (zap n) ∧ Z w.heap.size w w' := by
 have h64 := zl9 h1 h2;have HN : Q (zap n = zc5 9 (zef n)) := rfl
 have HU : Q ((n < 0 → (zef n : Int) = (-(n + 1)) * 2 + 1) ∧ (¬ n < 0 → (zef n : Int) = n * 2)) := by
  refine ⟨fun h => ?_, fun h => ?_⟩
  ·simp only [zef, h, if_true]; omega
  ·simp only [zef, h, if_false]; omega
 generalize zef n = u at *;generalize zap n = t at *;go_enter Try.func79, Try.ntmps79
 by_cases h0 : n < 0
 ·have hu := HU.out.1 h0
  have h128 : u ≤ 18446744073709551615 := by omega
  clear HU;go_wp2;go_loopw [3, 4] (fun u' v' w' => ∃ (f x : Nat) (pre : List Nat), u' = E .u64 x ∧ x ≤ 18446744073709551615 ∧ Q (x < 128 ^ f * 128) ∧ Q (t = pre ++ zc5 f x) ∧ pre.length + f = 9 ∧ zbp w' w.heap.size v' pre ∧ Z w.heap.size w w') (fun u _ _ => (intOf u).toNat)
  case atStart => exact ⟨9, u, [], by go_num, by omega, by show _ < _; omega, HN.out, rfl, zbp.nil _ _, Below.refl _ _⟩
  case round =>
   obtain ⟨f, x, pre, rfl, hx, hxf, HT, hpl, ho, hg⟩ := hrel;have hbr := hg.size;have jw : pre.length ≤ 9 := by omega
   by_cases hlt : 128 ≤ x
   ·obtain ⟨f', rfl⟩ : ∃ f', f = f' + 1 := by
     cases f with
     | zero => have := hxf.out; omega
     | succ f' => exact ⟨f', rfl⟩
    have HT' : Q (t = (pre ++ [x % 128 + 128]) ++ zc5 f' (x / 128)) := by show _ = _; rw [HT.out, zhc _ (by omega)]; simp
    have HX' : Q (x / 128 < 128 ^ f' * 128) := by have := hxf.out; show _ < _; rw [Nat.pow_succ] at this; omega
    clear HT hxf;go_wp2_with (at_builtin; refine zha _ rfl _ _ rfl w.heap.size _ _ rfl (ho.below (zi wr _) (kaa _)) wr.heap.size 1 [x % 128 + 128] rfl (by simp) rfl (by exact heap_alloc_new wr _) (by simp; omega) (by simp; omega) ?_; intro g cap' w2 hown2 j9)
    go_roundw
    case rel =>
     refine ⟨f', x / 128, pre ++ [x % 128 + 128], by go_num, by omega, HX', HT', by simp; omega, hown2, ?_⟩;exact (hg.alloc hbr _).trans (j9.below (ho.below (zi wr _) (kaa _)) (kaa _) (by simp; omega))
    case measure => simp [intOf]; omega
   ·have HT' : Q (t = pre ++ [x]) := by show _ = _; rw [HT.out, zg9 _ (by omega)]
    clear HT hxf;go_wp2_with (at_builtin; refine zha _ rfl _ _ rfl w.heap.size _ _ rfl (ho.below (zi wr _) (kaa _)) wr.heap.size 1 [x] rfl (by simp) rfl (by exact heap_alloc_new wr _) (by simp; omega) (by simp; omega) ?_; intro g cap' w2 hown2 j9)
    go_ret;refine ⟨_, rfl, ?_, ?_⟩
    ·rw [HT'.out]
     exact hown2
    ·exact (hg.alloc hbr _).trans (j9.below (ho.below (zi wr _) (kaa _)) (kaa _) (by simp; omega))
 ·have hu := HU.out.2 h0
  have h128 : u ≤ 18446744073709551615 := by omega
  clear HU;go_wp2;go_loopw [3, 4] (fun u' v' w' => ∃ (f x : Nat) (pre : List Nat), u' = E .u64 x ∧ x ≤ 18446744073709551615 ∧ Q (x < 128 ^ f * 128) ∧ Q (t = pre ++ zc5 f x) ∧ pre.length + f = 9 ∧ zbp w' w.heap.size v' pre ∧ Z w.heap.size w w') (fun u _ _ => (intOf u).toNat)
  case atStart => exact ⟨9, u, [], by go_num, by omega, by show _ < _; omega, HN.out, rfl, zbp.nil _ _, Below.refl _ _⟩
  case round =>
   obtain ⟨f, x, pre, rfl, hx, hxf, HT, hpl, ho, hg⟩ := hrel;have hbr := hg.size;have jw : pre.length ≤ 9 := by omega
   by_cases hlt : 128 ≤ x
   ·obtain ⟨f', rfl⟩ : ∃ f', f = f' + 1 := by
     cases f with
     | zero => have := hxf.out; omega
     | succ f' => exact ⟨f', rfl⟩
    have HT' : Q (t = (pre ++ [x % 128 + 128]) ++ zc5 f' (x / 128)) := by show _ = _; rw [HT.out, zhc _ (by omega)]; simp
    have HX' : Q (x / 128 < 128 ^ f' * 128) := by have := hxf.out; show _ < _; rw [Nat.pow_succ] at this; omega
    clear HT hxf;go_wp2_with (at_builtin; refine zha _ rfl _ _ rfl w.heap.size _ _ rfl (ho.below (zi wr _) (kaa _)) wr.heap.size 1 [x % 128 + 128] rfl (by simp) rfl (by exact heap_alloc_new wr _) (by simp; omega) (by simp; omega) ?_; intro g cap' w2 hown2 j9)
    go_roundw
    case rel =>
     refine ⟨f', x / 128, pre ++ [x % 128 + 128], by go_num, by omega, HX', HT', by simp; omega, hown2, ?_⟩;exact (hg.alloc hbr _).trans (j9.below (ho.below (zi wr _) (kaa _)) (kaa _) (by simp; omega))
    case measure => simp [intOf]; omega
   ·have HT' : Q (t = pre ++ [x]) := by show _ = _; rw [HT.out, zg9 _ (by omega)]
    clear HT hxf;go_wp2_with (at_builtin; refine zha _ rfl _ _ rfl w.heap.size _ _ rfl (ho.below (zi wr _) (kaa _)) wr.heap.size 1 [x] rfl (by simp) rfl (by exact heap_alloc_new wr _) (by simp; omega) (by simp; omega) ?_; intro g cap' w2 hown2 j9)
    go_ret;refine ⟨_, rfl, ?_, ?_⟩
    ·rw [HT'.out]
     exact hown2
    ·exact (hg.alloc hbr _).trans (j9.below (ho.below (zi wr _) (kaa _)) (kaa _) (by simp; omega))
theorem zm8 (a : Option Addr) (l : List Nat) (cap n : Nat) (w : World) (hn : n = l.length) (hl : l.length ≤ 9223372036854775807) (hb : Byt l) (hp : zdj w a l) :
  Calls Try.prog 69 #[G a n cap] w fun e w' => e = .returned (.tuple #[E J (zt l).1, E J (zt l).2.1, E J (zt l).2.2]) ∧ w' = w := by
 subst hn;go_enter Try.func69, Try.ntmps69
 go_wp2;go_loopw [5, 6, 7] (fun u p i w' => ∃ k x q : Nat, k ≤ l.length ∧ k ≤ 6 ∧ i = E J k ∧ u = E J x ∧ p = E J q ∧ x < q ∧ q ≤ 4398046511104 ∧ Q (q = 128 ^ k ∧ zt l = zd9 k x (l.drop k)) ∧ w' = w) (fun _ _ i _ => l.length + 1 - (intOf i).toNat)
 case atStart => exact ⟨0, 0, 1, Nat.zero_le _, by omega, rfl, rfl, rfl, by omega, by omega, ⟨rfl, rfl⟩, rfl⟩
 case round =>
  obtain ⟨k, x, q, hk, hk6, rfl, rfl, rfl, hx, hq, HG, rfl⟩ := hrel;by_cases hlt : k < l.length
  ·rcases hp with rfl | ⟨b', o, rfl, hb', hc⟩
   ·simp at hlt
   have d0 := hc k hlt;have hc256 := hb _ (List.getElem_mem hlt);have HG' : Q (q = 128 ^ k ∧ zt l = zd9 k x (l[k] :: l.drop (k + 1))) := ⟨HG.out.1, by rw [HG.out.2, ← List.drop_eq_getElem_cons hlt]⟩;have hkl : ¬ k = l.length := by omega
   clear hc hb HG;generalize l[k] = c at *;by_cases h6 : k = 6
   ·have HR : Q (zt l = (0, 0, 3)) := by show _ = _; rw [HG'.out.2]; simp [zd9, h6]
    clear HG';subst h6;go_wp2;refine bodyPost_ret (v := .tuple #[E J 0, E J 0, E J 3]) ?_ rfl ⟨by rw [HR.out]; rfl, rfl⟩;simp [results, Try.results69, go_sem]
   ·have hk5 : k < 6 := by omega
    have hq5 : q ≤ 34359738368 := by
     have := HG'.out.1;have h5 : 128 ^ k ≤ 128 ^ 5 := Nat.pow_le_pow_right (by omega) (by omega);have h6 : (128 : Nat) ^ 5 = 34359738368 := rfl;omega
    obtain ⟨y, hy⟩ : ∃ y : Nat, y = c % 128 * q := ⟨_, rfl⟩;have hyb : y ≤ 127 * q := by rw [hy]; exact Nat.mul_le_mul_right _ (by omega)
    have hyi : ((c : Int) % 128) * (q : Int) = (y : Int) := by rw [hy]; push_cast; rfl
    have hyi2 : (((c % 128 : Nat) : Int)) * (q : Int) = (y : Int) := by rw [hy]; push_cast; rfl
    have HG2 : Q (q = 128 ^ k ∧ zt l = (if 128 ≤ c then zd9 (k + 1) (x + y) (l.drop (k + 1)) else if c = 0 ∧ 0 < k then (0, 0, 2) else (zfa (x + y), k + 1, 0))) := ⟨HG'.out.1, by rw [HG'.out.2, hy, HG'.out.1]; simp only [zd9, h6, if_false]⟩;have HY := zA hy;clear HG' hy;by_cases h128 : 128 ≤ c
    ·have HR : Q (q = 128 ^ k ∧ zt l = zd9 (k + 1) (x + y) (l.drop (k + 1))) := ⟨HG2.out.1, by rw [HG2.out.2, if_pos h128]⟩
     clear HG2;go_wp2;go_roundw
     case rel =>
      refine ⟨k + 1, x + y, q * 128, by omega, by omega, by go_num, by go_num, by go_num, by omega, by omega, ⟨by rw [Nat.pow_succ, HR.out.1], HR.out.2⟩, by trivial⟩
     case measure => simp [intOf]; omega
    ·by_cases h0 : c = 0 ∧ 0 < k
     ·have HR : Q (zt l = (0, 0, 2)) := by show _ = _; rw [HG2.out.2, if_neg h128, if_pos h0]
      clear HG2;obtain ⟨rfl, hk0⟩ := h0;go_wp2;refine bodyPost_ret (v := .tuple #[E J 0, E J 0, E J 2]) ?_ rfl ⟨by rw [HR.out]; rfl, rfl⟩;simp [results, Try.results69, go_sem]
     ·have HR : Q (zt l = (zfa (x + y), k + 1, 0)) := by show _ = _; rw [HG2.out.2, if_neg h128, if_neg h0]
      clear HG2
      have HV : Q (((x + y) % 2 = 1 → zfa (x + y) = -(((x + y : Nat) : Int) / 2) - 1) ∧ (¬ (x + y) % 2 = 1 → zfa (x + y) = ((x + y : Nat) : Int) / 2)) := by
       refine ⟨fun h => ?_, fun h => ?_⟩
       ·simp only [zfa, h, if_true]; omega
       ·simp only [zfa, h, if_false]; omega
      generalize zfa (x + y) = z at *;by_cases hev : (x + y) % 2 = 1
      ·have hz := HV.out.1 hev
       have hev' : ((x : Int) + (y : Int)) % 2 = 1 := by omega
       have HZ : Q (z = -(((x : Int) + (y : Int)) / 2) - 1) := by show _ = _; rw [hz]; push_cast; rfl
       clear HV hz;by_cases hk0 : 0 < k
       ·have hc0 : ¬ c = 0 := fun h => h0 ⟨h, hk0⟩
        clear h0;go_wp2;refine bodyPost_ret (v := .tuple #[E J z, E J (k + 1 : Nat), E J 0]) ?_ rfl ⟨by rw [HR.out], rfl⟩;rw [HZ.out];simp [results, Try.results69, go_sem]
       ·clear h0
        go_wp2;refine bodyPost_ret (v := .tuple #[E J z, E J (k + 1 : Nat), E J 0]) ?_ rfl ⟨by rw [HR.out], rfl⟩;rw [HZ.out];simp [results, Try.results69, go_sem]
      ·have hz := HV.out.2 hev
       have hev' : ¬ ((x : Int) + (y : Int)) % 2 = 1 := by omega
       have HZ : Q (z = ((x : Int) + (y : Int)) / 2) := by show _ = _; rw [hz]; push_cast; rfl
       clear HV hz;by_cases hk0 : 0 < k
       ·have hc0 : ¬ c = 0 := fun h => h0 ⟨h, hk0⟩
        clear h0;go_wp2;refine bodyPost_ret (v := .tuple #[E J z, E J (k + 1 : Nat), E J 0]) ?_ rfl ⟨by rw [HR.out], rfl⟩;rw [HZ.out];simp [results, Try.results69, go_sem]
       ·clear h0
        go_wp2;refine bodyPost_ret (v := .tuple #[E J z, E J (k + 1 : Nat), E J 0]) ?_ rfl ⟨by rw [HR.out], rfl⟩;rw [HZ.out];simp [results, Try.results69, go_sem]
  ·have hkl : k = l.length := by omega
   have HR : Q (zt l = (0, 0, 8)) := by show _ = _; rw [HG.out.2, List.drop_eq_nil_of_le (by omega)]; rfl
   clear hp hb HG;go_wp2;refine bodyPost_ret (v := .tuple #[E J 0, E J 0, E J 8]) ?_ rfl ⟨by rw [HR.out]; rfl, rfl⟩;simp [results, Try.results69, go_sem]
end Go.Proofs.Ytpcnlifmkhagkaa
