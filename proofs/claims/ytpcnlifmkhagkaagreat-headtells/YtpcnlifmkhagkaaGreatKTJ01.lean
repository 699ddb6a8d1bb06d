import Derived.Test.YtpcnlifmkhagkaaGreatKTJ00
import Derived.Deep.RegionLaw
set_option maxRecDepth 20000
set_option maxHeartbeats 20000000
namespace Go.Proofs.YtpcnlifmkhagkaaGreat
open Go.RowKit
open Go.Value renaming slice → G, int → E
open Go.IntKind renaming i64 → J
open _root_.Option renaming none → U
open Go.RowKit renaming Hid → Q, Below → Z
open Go.World renaming setCell → r
attribute [local go_sem ↓] Go.wp_at_zero Go.wp_at_succ
theorem sz_int (w : World) : (sizeOf 3).run Tryz.prog w = .ok 1 w := by kernel_rfl
theorem part4_0 (v0 v1 v2 v3 : Value) (w : World) : (part 3 #[v0, v1, v2, v3] 0).run Tryz.prog w = .ok v0 w := by kernel_rfl
theorem part4_1 (v0 v1 v2 v3 : Value) (w : World) : (part 3 #[v0, v1, v2, v3] 1).run Tryz.prog w = .ok v1 w := by kernel_rfl
theorem part4_2 (v0 v1 v2 v3 : Value) (w : World) : (part 3 #[v0, v1, v2, v3] 2).run Tryz.prog w = .ok v2 w := by kernel_rfl
theorem part4_3 (v0 v1 v2 v3 : Value) (w : World) : (part 3 #[v0, v1, v2, v3] 3).run Tryz.prog w = .ok v3 w := by kernel_rfl
theorem eq4d (d : Nat) (a0 a1 a2 a3 b0 b1 b2 b3 : Int) (w : World) : (Op.equalIn (d + 2) 75 (.agg #[E J a0, E J a1, E J a2, E J a3]) (.agg #[E J b0, E J b1, E J b2, E J b3])).run Tryz.prog w = .ok (a0 == b0 && a1 == b1 && a2 == b2 && a3 == b3) w := by
 rw [Op.equalIn];simp only [Sem.run_bind, run_underlying Tryz.underlying75, Result.andThen_ok, sz_int, Std.Legacy.Range.forIn_eq_forIn_range', Std.Legacy.Range.size]
 rw [show List.range' 0 ((4 - 0 + 1 - 1) / 1) 1 = [0, 1, 2, 3] from rfl];simp only [List.forIn_cons, List.forIn_nil, Sem.run_bind, Nat.mul_one, part4_0, Result.andThen_ok, run_equalIn_int _ _ _ _ _ _ _ Tryz.underlying3, Sem.run_ite]
 cases h0 : a0 == b0 <;> cases h1 : a1 == b1 <;> cases h2 : a2 == b2 <;> cases h3 : a3 == b3 <;> simp [part4_1, part4_2, part4_3, run_equalIn_int _ _ _ _ _ _ _ Tryz.underlying3, h1, h2, h3]
theorem eq4 (a0 a1 a2 a3 b0 b1 b2 b3 : Int) (w : World) : (Op.equalIn 10000 75 (.agg #[E J a0, E J a1, E J a2, E J a3]) (.agg #[E J b0, E J b1, E J b2, E J b3])).run Tryz.prog w = .ok (a0 == b0 && a1 == b1 && a2 == b2 && a3 == b3) w := eq4d 9998 a0 a1 a2 a3 b0 b1 b2 b3 w
def zbk (w : World) (b : Nat) (t0 t1 t2 t3 : Int) : Prop :=
 (w.cell? ⟨b, 0, U⟩ = some (E J t0) ∧ w.cell? ⟨b, 1, U⟩ = some (E J t1) ∧ w.cell? ⟨b, 2, U⟩ = some (E J t2) ∧ w.cell? ⟨b, 3, U⟩ = some (E J t3)) ∧
 (w.frozen? ⟨b, 0, U⟩ = false ∧ w.frozen? ⟨b, 1, U⟩ = false ∧ w.frozen? ⟨b, 2, U⟩ = false ∧ w.frozen? ⟨b, 3, U⟩ = false)
theorem zbk.below {w w' : World} {B b : Nat} {t0 t1 t2 t3 : Int} (h : zbk w b t0 t1 t2 t3) (hb : Z B w w') (hlt : b < B) : zbk w' b t0 t1 t2 t3 := by
 obtain ⟨⟨c0, c1, c2, c3⟩, ⟨f0, f1, f2, f3⟩⟩ := h;refine ⟨⟨?_, ?_, ?_, ?_⟩, ⟨?_, ?_, ?_, ?_⟩⟩
 ·rw [hb.cell (p := ⟨b, 0, U⟩) hlt]; exact c0
 ·rw [hb.cell (p := ⟨b, 1, U⟩) hlt]; exact c1
 ·rw [hb.cell (p := ⟨b, 2, U⟩) hlt]; exact c2
 ·rw [hb.cell (p := ⟨b, 3, U⟩) hlt]; exact c3
 ·rw [hb.frozen (p := ⟨b, 0, U⟩) hlt]; exact f0
 ·rw [hb.frozen (p := ⟨b, 1, U⟩) hlt]; exact f1
 ·rw [hb.frozen (p := ⟨b, 2, U⟩) hlt]; exact f2
 ·rw [hb.frozen (p := ⟨b, 3, U⟩) hlt]; exact f3
theorem zhs {w : World} {a : Addr} {u : Value} (v : Value) (h : w.cell? a = some u) : (r w a v).cell? a = some v := World.cell?_setCell_same' w a v (by rw [h]; rfl)
theorem zeo {w : World} {a b : Addr} (v : Value) (h : a ≠ b) : (r w a v).cell? b = w.cell? b := by apply World.cell?_setCell_other; exact h
theorem zbk.far {w : World} {b c j : Nat} {t0 t1 t2 t3 : Int} (h : zbk w b t0 t1 t2 t3) (hc : c ≠ b) (v : Value) : zbk (r w ⟨c, j, U⟩ v) b t0 t1 t2 t3 := by
 obtain ⟨⟨c0, c1, c2, c3⟩, ⟨f0, f1, f2, f3⟩⟩ := h;refine ⟨⟨?_, ?_, ?_, ?_⟩, ⟨by simpa using f0, by simpa using f1, by simpa using f2, by simpa using f3⟩⟩
 all_goals (rw [zeo _ (fun h => hc (congrArg Addr.block h))]; assumption)
theorem zbk.put0 {w : World} {b : Nat} {t0 t1 t2 t3 : Int} (h : zbk w b t0 t1 t2 t3) (x : Int) : zbk (r w ⟨b, 0, U⟩ (E J x)) b x t1 t2 t3 := by
 obtain ⟨⟨c0, c1, c2, c3⟩, ⟨f0, f1, f2, f3⟩⟩ := h;exact ⟨⟨zhs _ c0, by rw [zeo _ (by simp)]; exact c1, by rw [zeo _ (by simp)]; exact c2, by rw [zeo _ (by simp)]; exact c3⟩, ⟨by simpa using f0, by simpa using f1, by simpa using f2, by simpa using f3⟩⟩
theorem zbk.put1 {w : World} {b : Nat} {t0 t1 t2 t3 : Int} (h : zbk w b t0 t1 t2 t3) (x : Int) : zbk (r w ⟨b, 1, U⟩ (E J x)) b t0 x t2 t3 := by
 obtain ⟨⟨c0, c1, c2, c3⟩, ⟨f0, f1, f2, f3⟩⟩ := h;exact ⟨⟨by rw [zeo _ (by simp)]; exact c0, zhs _ c1, by rw [zeo _ (by simp)]; exact c2, by rw [zeo _ (by simp)]; exact c3⟩, ⟨by simpa using f0, by simpa using f1, by simpa using f2, by simpa using f3⟩⟩
theorem zbk.put2 {w : World} {b : Nat} {t0 t1 t2 t3 : Int} (h : zbk w b t0 t1 t2 t3) (x : Int) : zbk (r w ⟨b, 2, U⟩ (E J x)) b t0 t1 x t3 := by
 obtain ⟨⟨c0, c1, c2, c3⟩, ⟨f0, f1, f2, f3⟩⟩ := h;exact ⟨⟨by rw [zeo _ (by simp)]; exact c0, by rw [zeo _ (by simp)]; exact c1, zhs _ c2, by rw [zeo _ (by simp)]; exact c3⟩, ⟨by simpa using f0, by simpa using f1, by simpa using f2, by simpa using f3⟩⟩
theorem zbk.put3 {w : World} {b : Nat} {t0 t1 t2 t3 : Int} (h : zbk w b t0 t1 t2 t3) (x : Int) : zbk (r w ⟨b, 3, U⟩ (E J x)) b t0 t1 t2 x := by
 obtain ⟨⟨c0, c1, c2, c3⟩, ⟨f0, f1, f2, f3⟩⟩ := h;exact ⟨⟨by rw [zeo _ (by simp)]; exact c0, by rw [zeo _ (by simp)]; exact c1, by rw [zeo _ (by simp)]; exact c2, zhs _ c3⟩, ⟨by simpa using f0, by simpa using f1, by simpa using f2, by simpa using f3⟩⟩
theorem zbk.drew {w : World} {b : Nat} {t0 t1 t2 t3 : Int} (h : zbk w b t0 t1 t2 t3) : zbk w.drew b t0 t1 t2 t3 := h
theorem doV {f : Nat} {s : S4} {l : List P3} {args : Array Value} {w : World} {t0 t1 t2 t3 : Int} (hd : doB s l = (t0, t1, t2, t3))
  (h : Calls Tryz.prog f args w fun e w' => (∃ x0 x1 x2 x3, doB s l = (x0, x1, x2, x3) ∧ e = .returned (.agg #[E J x0, E J x1, E J x2, E J x3])) ∧ Z w.heap.size w w') :
  Calls Tryz.prog f args w fun e w' => e = .returned (.agg #[E J t0, E J t1, E J t2, E J t3]) ∧ Z w.heap.size w w' := by
 refine h.mono ?_;rintro e w' ⟨⟨x0, x1, x2, x3, hx, rfl⟩, hb⟩;rw [hd] at hx;simp only [Prod.mk.injEq] at hx
 obtain ⟨rfl, rfl, rfl, rfl⟩ := hx;exact ⟨rfl, hb⟩
theorem zcn : (Tryz.prog.info? 3).map (fun i => (i.zero, i.size, i.bytes)) = some (some (E J 0), 1, 8) := by kernel_rfl
theorem Blk.keptT {w w' : World} {b : Nat} {cs : Array Value} {t : TypeId} (h : Blk w b cs t) {row : Option Nat} (hg : w.grownBy w' row) (hr : ∀ k, row = some k → ∃ cs t', Blk w k cs t' ∧ t' ≠ t) : Blk w' b cs t := zg.grown hg hr _ _ h
theorem za.neT {α : Type} {e : TypeId} {size : Nat} {enc : α → List Value} {w : World} {base : Nat} {v : Value} {xs : List α} (h : za e size enc w base v xs) {g : Nat} {cs : Array Value} {t : TypeId} (hb : Blk w g cs t) (ht : t ≠ e) : v.ownBlock ≠ some g := fun hv => by
 obtain ⟨_, cs', hb'⟩ := h.blk hv;unfold Blk at hb hb'
 rw [hb] at hb';injection hb' with hb'
 injection hb' with _ q _
 exact ht q
def zbv (zV : TypeId) (w w' : World) : Prop := ∀ b cs t, t ≠ zV → Blk w b cs t → Blk w' b cs t
theorem zbv.trans {zV : TypeId} {a b c : World} (h : zbv zV a b) (k : zbv zV b c) : zbv zV a c := fun _ _ _ ht x => k _ _ _ ht (h _ _ _ ht x)
theorem zbv.setCell {zV : TypeId} {w : World} {a : Addr} {cs : Array Value} (hb : Blk w a.block cs zV) (u : Value) : zbv zV w (r w a u) := fun _ _ _ ht x => zg.setCell hb (fun e => ht e.symm) u _ _ x
theorem zbv.calm {zV t : TypeId} {w w' : World} (h : zbv zV w w') (ht : t ≠ zV) : zg t w w' := fun _ _ x => h _ _ _ ht x
theorem za.only {α : Type} {e zV : TypeId} {size : Nat} {enc : α → List Value} {w w' : World} {base : Nat} {v : Value} {xs : List α} (h : za e size enc w base v xs) (ho : zbv zV w w') (he : e ≠ zV) : za e size enc w' base v xs := by
 refine ⟨h.1, ?_⟩;rcases h.2 with h0 | ⟨g, cap, cur, hv, hg, hh, jj⟩
 ·exact Or.inl h0
 ·exact Or.inr ⟨g, cap, cur, hv, hg, ho _ _ _ he hh, jj⟩
theorem fill7 {w : World} {N : Nat} {zV : TypeId} {c0 c1 c2 c3 c4 c5 c6 : Value} (hb : Blk w N #[c0, c1, c2, c3, c4, c5, c6] zV) (v0 v1 v2 v3 v4 v5 v6 : Value) :
  Blk (r (r (r (r (r (r (r w ⟨N, 0, U⟩ v0) ⟨N, 1, U⟩ v1) ⟨N, 2, U⟩ v2) ⟨N, 3, U⟩ v3) ⟨N, 4, U⟩ v4) ⟨N, 5, U⟩ v5) ⟨N, 6, U⟩ v6) N #[v0, v1, v2, v3, v4, v5, v6] zV ∧
  zbv zV w (r (r (r (r (r (r (r w ⟨N, 0, U⟩ v0) ⟨N, 1, U⟩ v1) ⟨N, 2, U⟩ v2) ⟨N, 3, U⟩ v3) ⟨N, 4, U⟩ v4) ⟨N, 5, U⟩ v5) ⟨N, 6, U⟩ v6) := by
 have b0 : Blk (r w ⟨N, 0, U⟩ v0) N #[v0, c1, c2, c3, c4, c5, c6] zV := hb.set 0 v0;have b1 : Blk (r (r w ⟨N, 0, U⟩ v0) ⟨N, 1, U⟩ v1) N #[v0, v1, c2, c3, c4, c5, c6] zV := b0.set 1 v1;have b2 : Blk (r (r (r w ⟨N, 0, U⟩ v0) ⟨N, 1, U⟩ v1) ⟨N, 2, U⟩ v2) N #[v0, v1, v2, c3, c4, c5, c6] zV := b1.set 2 v2;have b3 : Blk (r (r (r (r w ⟨N, 0, U⟩ v0) ⟨N, 1, U⟩ v1) ⟨N, 2, U⟩ v2) ⟨N, 3, U⟩ v3) N #[v0, v1, v2, v3, c4, c5, c6] zV := b2.set 3 v3;have b4 : Blk (r (r (r (r (r w ⟨N, 0, U⟩ v0) ⟨N, 1, U⟩ v1) ⟨N, 2, U⟩ v2) ⟨N, 3, U⟩ v3) ⟨N, 4, U⟩ v4) N #[v0, v1, v2, v3, v4, c5, c6] zV := b3.set 4 v4;have b5 : Blk (r (r (r (r (r (r w ⟨N, 0, U⟩ v0) ⟨N, 1, U⟩ v1) ⟨N, 2, U⟩ v2) ⟨N, 3, U⟩ v3) ⟨N, 4, U⟩ v4) ⟨N, 5, U⟩ v5) N #[v0, v1, v2, v3, v4, v5, c6] zV := b4.set 5 v5;have b6 : Blk (r (r (r (r (r (r (r w ⟨N, 0, U⟩ v0) ⟨N, 1, U⟩ v1) ⟨N, 2, U⟩ v2) ⟨N, 3, U⟩ v3) ⟨N, 4, U⟩ v4) ⟨N, 5, U⟩ v5) ⟨N, 6, U⟩ v6) N #[v0, v1, v2, v3, v4, v5, v6] zV := b5.set 6 v6;exact ⟨b6, (((((((zbv.setCell (a := ⟨N, 0, U⟩) hb v0).trans (zbv.setCell (a := ⟨N, 1, U⟩) b0 v1)).trans (zbv.setCell (a := ⟨N, 2, U⟩) b1 v2)).trans (zbv.setCell (a := ⟨N, 3, U⟩) b2 v3)).trans (zbv.setCell (a := ⟨N, 4, U⟩) b3 v4)).trans (zbv.setCell (a := ⟨N, 5, U⟩) b4 v5)).trans (zbv.setCell (a := ⟨N, 6, U⟩) b5 v6))⟩
def zev (w : World) (v : Value) (L : List R3) (h : H3) : Prop :=
 ∃ (la : Option Addr) (nl lc : Nat) (Y : List XL) (ra : Option Addr) (nr rc : Nat) (XR : List XD) (da : Option Addr) (nd dc : Nat),
  v = .agg #[G la nl lc, E J h.1.1, E J h.1.2.1, E J h.1.2.2.1, E J h.1.2.2.2, G ra nr rc, G da nd dc] ∧
  (nl = L.length ∧ Y.map ze = L ∧ zcc w la Y) ∧ (nr = XR.length ∧ XR.map zbm = h.2.1 ∧ zfn w ra XR) ∧ (nd = h.2.2.length ∧ nd ≤ dc ∧ dc ≤ maxLen ∧ zi 1 zu w da h.2.2)
theorem zev.below {w w' : World} {v : Value} {L : List R3} {h : H3} (hh : zev w v L h) (hb : Z w.heap.size w w') : zev w' v L h := by
 obtain ⟨la, nl, lc, Y, ra, nr, rc, XR, da, nd, dc, hv, ⟨h1, h2, h3⟩, ⟨h4, h5, h6⟩, h7, h8, h9, h10⟩ := hh;exact ⟨la, nl, lc, Y, ra, nr, rc, XR, da, nd, dc, hv, ⟨h1, h2, h3.below hb⟩, ⟨h4, h5, h6.below hb⟩, h7, h8, h9, h10.below hb⟩
def zcm (base : Nat) (w : World) (v : Value) (L : List R3) (h : H3) : Prop :=
 ∃ (la : Option Addr) (nl lc : Nat) (Y : List XL) (ra : Option Addr) (nr rc : Nat) (XR : List XD) (da : Option Addr) (nd dc : Nat),
  v = .agg #[G la nl lc, E J h.1.1, E J h.1.2.1, E J h.1.2.2.1, E J h.1.2.2.2, G ra nr rc, G da nd dc] ∧
  (Y.map ze = L ∧ zc7 w base (G la nl lc) Y) ∧ (XR.map zbm = h.2.1 ∧ za 80 2 zdd w base (G ra nr rc) XR ∧ ∀ x ∈ XR, zai base w x.2.1.1 x.2.2) ∧ za 3 1 zu w base (G da nd dc) h.2.2
def zhp (w : World) (v : Value) (L : List R3) (h : H3) : Prop := zcm 0 w v L h
theorem zcm.mono {base base' : Nat} {w : World} {v : Value} {L : List R3} {h : H3} (hh : zcm base w v L h) (hb : base' ≤ base) : zcm base' w v L h := by
 obtain ⟨la, nl, lc, Y, ra, nr, rc, XR, da, nd, dc, hv, ⟨h1, h2⟩, ⟨h3, h4, h5⟩, h6⟩ := hh;exact ⟨la, nl, lc, Y, ra, nr, rc, XR, da, nd, dc, hv, ⟨h1, h2.mono hb⟩, ⟨h3, h4.mono hb, fun x hx => (h5 x hx).mono hb⟩, h6.mono hb⟩
theorem zcm.at {base : Nat} {w : World} {v : Value} {L : List R3} {h : H3} (hh : zcm base w v L h) : zev w v L h := by
 obtain ⟨la, nl, lc, Y, ra, nr, rc, XR, da, nd, dc, hv, ⟨h1, h2⟩, ⟨h3, h4, h5⟩, h6⟩ := hh;have k1 := h2.1.at za7;have k2 := h4.at ze2;have k3 := h6.at zaf;exact ⟨la, nl, lc, Y, ra, nr, rc, XR, da, nd, dc, hv, ⟨by rw [k1.2.1, ← h1, List.length_map], h1, h2.at⟩, ⟨k2.2.1, h3, k2.1, fun x hx => (h5 x hx).at⟩, k3.2.1, by rw [k3.2.1]; exact k3.2.2.1, k3.2.2.2, k3.1⟩
theorem zcm.only {base : Nat} {w w' : World} {v : Value} {L : List R3} {h : H3} (hh : zcm base w v L h) (ho : zbv 77 w w') : zcm base w' v L h := by
 obtain ⟨la, nl, lc, Y, ra, nr, rc, XR, da, nd, dc, hv, ⟨h1, h2⟩, ⟨h3, h4, h5⟩, h6⟩ := hh;exact ⟨la, nl, lc, Y, ra, nr, rc, XR, da, nd, dc, hv, ⟨h1, h2.1.only ho (by decide), fun y hy => (h2.2 y hy).calm (ho.calm (by decide))⟩, ⟨h3, h4.only ho (by decide), fun x hx => (h5 x hx).calm (ho.calm (by decide))⟩, h6.only ho (by decide)⟩
theorem zcm.below {base : Nat} {w w' : World} {v : Value} {L : List R3} {h : H3} (hh : zcm base w v L h) (hb : Z w.heap.size w w') : zcm base w' v L h := by
 obtain ⟨la, nl, lc, Y, ra, nr, rc, XR, da, nd, dc, hv, ⟨h1, h2⟩, ⟨h3, h4, h5⟩, h6⟩ := hh;exact ⟨la, nl, lc, Y, ra, nr, rc, XR, da, nd, dc, hv, ⟨h1, h2.below hb⟩, ⟨h3, h4.below hb (Nat.le_refl _), fun x hx => (h5 x hx).calm (zg.below hb (Nat.le_refl _))⟩, h6.below hb (Nat.le_refl _)⟩
theorem zhp.at {w : World} {v : Value} {L : List R3} {h : H3} (hh : zhp w v L h) : zev w v L h := zcm.at hh
theorem zhp.only {w w' : World} {v : Value} {L : List R3} {h : H3} (hh : zhp w v L h) (ho : zbv 77 w w') : zhp w' v L h := zcm.only hh ho
def HAt (B base : Nat) (lv : Value) (w : World) (h : H3) : Prop :=
 ∃ (ra : Option Addr) (nr rc : Nat) (XR : List XD) (da : Option Addr) (nd dc : Nat),
  Blk w B #[lv, E J h.1.1, E J h.1.2.1, E J h.1.2.2.1, E J h.1.2.2.2, G ra nr rc, G da nd dc] 77 ∧
  za 80 2 zdd w base (G ra nr rc) XR ∧ (∀ x ∈ XR, zai base w x.2.1.1 x.2.2) ∧ XR.map zbm = h.2.1 ∧ za 3 1 zu w base (G da nd dc) h.2.2
theorem HAt.below {B base : Nat} {lv : Value} {w w' : World} {h : H3} (hh : HAt B base lv w h) (hb : Z w.heap.size w w') : HAt B base lv w' h := by
 obtain ⟨ra, nr, rc, XR, da, nd, dc, h1, h2, h3, h4, h5⟩ := hh;exact ⟨ra, nr, rc, XR, da, nd, dc, h1.below hb h1.lt, h2.below hb (Nat.le_refl _), fun x hx => (h3 x hx).calm (zg.below hb (Nat.le_refl _)), h4, h5.below hb (Nat.le_refl _)⟩
theorem dropD_map (XR : List XD) (D : Int) : (XR.filter fun x => !decide (x.1 = D)).map zbm = zal (XR.map zbm) D := by
 unfold zal
 rw [List.filter_map];rfl
theorem HAt.put1 {B base : Nat} {lv : Value} {w : World} {h : H3} (hh : HAt B base lv w h) (t0 t1 t2 t3 : Int) :
  HAt B base lv (r (r (r (r w ⟨B, 1, U⟩ (E J t0)) ⟨B, 2, U⟩ (E J t1)) ⟨B, 3, U⟩ (E J t2)) ⟨B, 4, U⟩ (E J t3)) ((t0, t1, t2, t3), h.2.1, h.2.2) := by
 obtain ⟨ra, nr, rc, XR, da, nd, dc, hB, hR, hT, hD, hI⟩ := hh;have b1 := hB.set 1 (E J t0);have b2 := b1.set 2 (E J t1);have b3 := b2.set 3 (E J t2);refine ⟨ra, nr, rc, XR, da, nd, dc, b3.set 4 _, ?_, fun x hx => ?_, hD, ?_⟩
 ·exact (((hR.setOther (a := ⟨B, 1, U⟩) hB (by decide) _).setOther (a := ⟨B, 2, U⟩) b1 (by decide) _).setOther (a := ⟨B, 3, U⟩) b2 (by decide) _).setOther (a := ⟨B, 4, U⟩) b3 (by decide) _
 ·exact ((((hT x hx).calm (zg.setCell (a := ⟨B, 1, U⟩) hB (by decide) _)).calm (zg.setCell (a := ⟨B, 2, U⟩) b1 (by decide) _)).calm (zg.setCell (a := ⟨B, 3, U⟩) b2 (by decide) _)).calm (zg.setCell (a := ⟨B, 4, U⟩) b3 (by decide) _)
 ·exact (((hI.setOther (a := ⟨B, 1, U⟩) hB (by decide) _).setOther (a := ⟨B, 2, U⟩) b1 (by decide) _).setOther (a := ⟨B, 3, U⟩) b2 (by decide) _).setOther (a := ⟨B, 4, U⟩) b3 (by decide) _
end Go.Proofs.YtpcnlifmkhagkaaGreat
