/- Proved: whatever it is called with, HeadTells returns true, and each argument reads afterwards as it read before. No condition. -/
import Derived.Test.YtpcnlifmkhagkaaGreatRows
import Derived.Test.YtpcnlifmkhagkaaGreatKTHeadTells
import Derived.OpenShut
import Derived.Deep.Slices
import Derived.ChangeOld
set_option maxRecDepth 20000
set_option maxHeartbeats 20000000
namespace Go.Proofs.YtpcnlifmkhagkaaGreat
open Go.RowKit
open Go.Value renaming slice → G, int → E
open Go.IntKind renaming i64 → J
open _root_.Option renaming none → U
open Go.ChangeShapes Go.WideShapes Go.ChangeAt Go.RowKit Go.Deep
section
variable {H : Type} {enc : TypeId × Value → H} {w : World} {base : Nat} {spare : Nat → Bool} {held : Bool}
theorem zm4 : Tryz.prog.cellsOf 90 = 3 := by kernel_rfl
theorem zim : Tryz.prog.cellsOf 3 = 1 := by kernel_rfl
theorem zkz {w : World} {a : Addr} {v : Value} (h : w.cell? a = some v) : a.block < w.heap.size := by
 rcases Nat.lt_or_ge a.block w.heap.size with h' | h'
 ·exact h'
 ·exfalso
  have : w.heap[a.block]? = U := Array.getElem?_eq_none h';simp [World.cell?, this] at h
theorem zo7 {fuel : Nat} {v : Value} {x : DataW H × List MemPlace} (hv : Value.okWide Tryz.prog w .any base 23 v) (h : DataW.trod enc Tryz.prog w 0 spare held fuel 23 v.cells.toList = some x) :
  ∃ (a : Option Addr) (cap : Nat) (l : List P3), v = G a l.length cap ∧ zae w a l ∧ l.length ≤ cap ∧ cap ≤ maxLen := by
 obtain ⟨a, len, cap, rfl⟩ := okWide_slice Tryz.underlying23 hv;rcases open_slice Tryz.underlying23 h with ⟨hcs, _⟩ | ⟨ad, len', cap', m, n, D, Pl, hcs, hb, hl, hm, hmm, _, hx⟩
 ·simp [Value.cells] at hcs
  obtain ⟨rfl, rfl, rfl⟩ := hcs;exact ⟨U, 0, [], rfl, Or.inl rfl, by simp, by simp⟩
 ·simp [Value.cells] at hcs
  obtain ⟨rfl, rfl, rfl⟩ := hcs;have hlm : len ≤ m := by rw [hmm]; split <;> omega
  have each : ∀ i, i < len → ∃ p : P3, w.cell? (ad.add (i * 3)) = some (E J p.1) ∧ w.cell? (ad.add (i * 3 + 1)) = some (E J p.2.1) ∧ w.cell? (ad.add (i * 3 + 2)) = some (E J p.2.2) := by
   intro i hi;obtain ⟨cs', h1, h2⟩ := hx i (by omega);rw [zm4] at h1;obtain ⟨_, hlen, hcell⟩ := World.cells?_some h1;obtain ⟨xs, k, hk, hxy, _, hxl, hf⟩ := DataW.trod_struct Tryz.underlying90 h2
   match xs, hxl, cs', hlen with
   | [y0, y1, y2], _, [v0, v1, v2], _ =>
    have g0 := hf 0 _ rfl;have g1 := hf 1 _ rfl;have g2 := hf 2 _ rfl;simp [zim] at g0 g1 g2
    have e0 := hcell 0 (by omega);have e1 := hcell 1 (by omega);have e2 := hcell 2 (by omega);rw [add_add] at e0 e1 e2;obtain ⟨n0, q0, _⟩ := DataW.trod_int Tryz.underlying3 g0;obtain ⟨n1, q1, _⟩ := DataW.trod_int Tryz.underlying3 g1;obtain ⟨n2, q2, _⟩ := DataW.trod_int Tryz.underlying3 g2;simp at q0 q1 q2
    subst q0 q1 q2;exact ⟨(n0, n1, n2), by simpa using e0, by simpa using e1, by simpa using e2⟩
  obtain ⟨f, hf⟩ := choose_lt (α := P3) each;refine ⟨some ad, cap, (List.range len).map f, by simp, ?_, by simpa using hl, hm⟩;by_cases h0 : len = 0
  ·subst h0; exact Or.inl rfl
  ·have c0 := (hf 0 (by omega)).1
   obtain ⟨b, o, spot⟩ := ad;have hspot : spot = U := by simpa [Addr.add] using World.cell?_spot c0
   subst hspot;refine Or.inr ⟨b, o, rfl, ?_, fun i hi => ?_⟩
   ·have := zkz c0
    simpa [Addr.add] using this
   ·have hi' : i < len := by simpa using hi
    obtain ⟨c0, c1, c2⟩ := hf i hi';have hadd : ∀ j, (⟨b, o, U⟩ : Addr).add j = ⟨b, o + j, U⟩ := by intro j; unfold Addr.add; split <;> simp_all
    rw [hadd] at c0 c1 c2;simp only [List.getElem_map, List.getElem_range]
    exact ⟨c0, by rw [Nat.add_assoc]; exact c1, by rw [Nat.add_assoc]; exact c2⟩
end
open Go.ChangeShapes Go.WideShapes Go.ChangeAt Go.RowKit Go.Deep
section
variable {H : Type} {enc : TypeId × Value → H} {w : World} {base : Nat} {spare : Nat → Bool} {held : Bool}
theorem zkl {α : Type} [Inhabited α] {cod : α → List Value} {size : Nat} {tS tE : TypeId} {P : α → Prop} (h0 : 0 < size) (he : ∀ x, (cod x).length = size) (hu : Tryz.prog.underlying tS = some (.slice tE)) (hcells : Tryz.prog.cellsOf tE = size)
  (elem : ∀ (fuel : Nat) (cs : List Value) (x : DataW H × List MemPlace), cs.length = size → DataW.trod enc Tryz.prog w 0 spare held fuel tE cs = some x → ∃ y : α, cs = cod y ∧ P y)
  {fuel : Nat} {cs : List Value} {x : DataW H × List MemPlace} (h : DataW.trod enc Tryz.prog w 0 spare held fuel tS cs = some x) :
  ∃ (a : Option Addr) (cap : Nat) (X : List α), cs = [G a X.length cap] ∧ zi size cod w a X ∧ (∀ y ∈ X, P y) ∧ X.length ≤ cap ∧ cap ≤ maxLen := by
 rcases open_slice hu h with ⟨hcs, _⟩ | ⟨ad, len, cap, m, n, D, Pl, hcs, hb, hl, hm, hmm, _, hx⟩
 ·exact ⟨none, 0, [], hcs, Or.inl rfl, (fun y hy => by cases hy), by simp, by simp⟩
 ·subst hcs
  have hlm : len ≤ m := by rw [hmm]; split <;> omega
  have each : ∀ i, i < len → ∃ y : α, (∀ j u, (cod y)[j]? = some u → w.cell? (ad.add (i * size + j)) = some u) ∧ P y := by
   intro i hi;obtain ⟨cs', h1, h2⟩ := hx i (by omega);rw [hcells] at h1;obtain ⟨_, hlen, hcell⟩ := World.cells?_some h1;obtain ⟨y, rfl, hy⟩ := elem _ _ _ hlen h2;refine ⟨y, fun j u hu' => ?_, hy⟩
   have hj : j < size := by
    rcases Nat.lt_or_ge j size with h' | h'
    ·exact h'
    ·rw [List.getElem?_eq_none (by rw [he]; exact h')] at hu'; cases hu'
   have := hcell j hj;rw [add_add, hu'] at this;exact this
  obtain ⟨f, hf⟩ := choose_lt (α := α) each;refine ⟨some ad, cap, (List.range len).map f, by simp, ?_, ?_, by simpa using hl, hm⟩
  ·by_cases hz : len = 0
   ·subst hz; exact Or.inl rfl
   ·have hy := hf 0 (by omega)
    have hl0 : 0 < (cod (f 0)).length := by rw [he]; exact h0
    have c0 := hy.1 0 _ (List.getElem?_eq_getElem hl0);obtain ⟨b, o, spot⟩ := ad;have hspot : spot = U := by simpa [Addr.add] using World.cell?_spot c0
    subst hspot;refine Or.inr ⟨b, o, rfl, ?_, fun i hi j u hu' => ?_⟩
    ·have := zkz c0
     simpa [Addr.add] using this
    ·have hi' : i < len := by simpa using hi
     simp only [List.getElem_map, List.getElem_range] at hu'
     have c1 := (hf i hi').1 j u hu';have hadd : ∀ j, (⟨b, o, U⟩ : Addr).add j = ⟨b, o + j, U⟩ := by intro j; unfold Addr.add; split <;> simp_all
     rw [hadd, ← Nat.add_assoc] at c1;exact c1
  ·intro y hy
   simp only [List.mem_map, List.mem_range] at hy
   obtain ⟨i, hi, rfl⟩ := hy;exact (hf i hi).2
theorem zna : Tryz.prog.cellsOf 23 = 1 := by kernel_rfl
theorem zp4 (fuel : Nat) (cs : List Value) (x : DataW H × List MemPlace) (hlen : cs.length = 3) (h : DataW.trod enc Tryz.prog w 0 spare held fuel 90 cs = some x) : ∃ p : P3, cs = zey p ∧ ((Lit.int J p.1).wf = true ∧ (Lit.int J p.2.1).wf = true ∧ (Lit.int J p.2.2).wf = true) := by
 obtain ⟨xs, k, hk, hxy, _, hxl, hf⟩ := DataW.trod_struct Tryz.underlying90 h
 match xs, hxl, cs, hlen with
 | [y0, y1, y2], _, [v0, v1, v2], _ =>
  have g0 := hf 0 _ rfl;have g1 := hf 1 _ rfl;have g2 := hf 2 _ rfl;simp [zim] at g0 g1 g2
  obtain ⟨n0, q0, _, w0⟩ := DataW.trod_int Tryz.underlying3 g0;obtain ⟨n1, q1, _, w1⟩ := DataW.trod_int Tryz.underlying3 g1;obtain ⟨n2, q2, _, w2⟩ := DataW.trod_int Tryz.underlying3 g2;simp at q0 q1 q2
  subst q0 q1 q2;exact ⟨(n0, n1, n2), rfl, w0, w1, w2⟩
theorem row_parts {a : Option Addr} {l : List P3} (h : zi 3 zey w a l) : zae w a l := by
 rcases h with rfl | ⟨b, o, rfl, hlt, hc⟩
 ·exact Or.inl rfl
 ·exact Or.inr ⟨b, o, rfl, hlt, fun i hi => ⟨hc i hi 0 _ rfl, hc i hi 1 _ rfl, hc i hi 2 _ rfl⟩⟩
theorem zkh {fuel : Nat} {cs : List Value} {x : DataW H × List MemPlace} (h : DataW.trod enc Tryz.prog w 0 spare held fuel 23 cs = some x) :
  ∃ (a : Option Addr) (cap : Nat) (l : List P3), cs = [G a l.length cap] ∧ zae w a l ∧ l.length ≤ cap ∧ cap ≤ maxLen := by
 obtain ⟨a, cap, l, h1, h2, _, h3, h4⟩ := zkl (by decide) lenP Tryz.underlying23 zm4 (fun f cs x hl h => zp4 f cs x hl h) h;exact ⟨a, cap, l, h1, row_parts h2, h3, h4⟩
end
open Go.ChangeShapes Go.WideShapes Go.ChangeAt Go.RowKit Go.Deep
section
variable {H : Type} {enc : TypeId × Value → H} {w : World} {base : Nat} {spare : Nat → Bool} {held : Bool}
theorem cellsStep : Tryz.prog.cellsOf 61 = 3 := by kernel_rfl
theorem zpe (fuel : Nat) (cs : List Value) (x : DataW H × List MemPlace) (hlen : cs.length = 3) (h : DataW.trod enc Tryz.prog w 0 spare held fuel 61 cs = some x) : ∃ jj : XL, cs = zah jj ∧ (zae w jj.2.2.1.1 jj.2.2.2 ∧ jj.2.2.2.length ≤ jj.2.2.1.2 ∧ jj.2.2.1.2 ≤ maxLen ∧ (Lit.int J jj.1).wf = true ∧ (Lit.int J jj.2.1).wf = true) := by
 obtain ⟨xs, k, hk, hxy, _, hxl, hf⟩ := DataW.trod_struct Tryz.underlying61 h
 match xs, hxl, cs, hlen with
 | [y0, y1, y2], _, [v0, v1, v2], _ =>
  have g0 := hf 0 _ rfl;have g1 := hf 1 _ rfl;have g2 := hf 2 _ rfl;simp [zim, zna] at g0 g1 g2
  obtain ⟨n0, q0, _, w0⟩ := DataW.trod_int Tryz.underlying3 g0;obtain ⟨n1, q1, _, w1⟩ := DataW.trod_int Tryz.underlying3 g1;obtain ⟨a, cap, l, q2, hp, hc, hm⟩ := zkh g2;simp at q0 q1 q2
  subst q0 q1 q2;exact ⟨(n0, n1, (a, cap), l), rfl, hp, hc, hm, w0, w1⟩
theorem zql {fuel : Nat} {v : Value} {x : DataW H × List MemPlace} (hv : Value.okWide Tryz.prog w .any base 22 v) (h : DataW.trod enc Tryz.prog w 0 spare held fuel 22 v.cells.toList = some x) :
  ∃ (a : Option Addr) (cap : Nat) (X : List XL), v = G a X.length cap ∧ zcc w a X ∧ (∀ jj ∈ X, jj.2.2.2.length ≤ 9223372036854775807 ∧ (Lit.int J jj.1).wf = true ∧ (Lit.int J jj.2.1).wf = true) ∧ X.length ≤ cap ∧ cap ≤ maxLen := by
 obtain ⟨a, len, cap, rfl⟩ := okWide_slice Tryz.underlying22 hv;obtain ⟨a', cap', X, e, h1, h2, h3, h4⟩ := zkl (by decide) za7 Tryz.underlying22 cellsStep (fun f cs x hl h => zpe f cs x hl h) h;simp [Value.cells] at e
 obtain ⟨rfl, rfl, rfl⟩ := e;exact ⟨_, _, X, rfl, ⟨h1, fun y hy => (h2 y hy).1⟩, fun y hy => ⟨by have := h2 y hy; unfold maxLen at this; omega, (h2 y hy).2.2.2⟩, h3, h4⟩
end
open Go.ChangeShapes Go.WideShapes Go.ChangeAt Go.RowKit Go.Deep
section
variable {H : Type} {enc : TypeId × Value → H} {w : World} {base : Nat} {spare : Nat → Bool} {held : Bool}
theorem cellsMsg4 : Tryz.prog.cellsOf 25 = 4 := by kernel_rfl
theorem open_msgC (fuel : Nat) (cs : List Value) (x : DataW H × List MemPlace) (hlen : cs.length = 4) (h : DataW.trod enc Tryz.prog w 0 spare held fuel 25 cs = some x) : ∃ jj : XM, cs = zb3 jj ∧ (zae w jj.2.2.2.1.1 jj.2.2.2.2 ∧ jj.2.2.2.2.length ≤ jj.2.2.2.1.2 ∧ jj.2.2.2.1.2 ≤ maxLen ∧ (Lit.int J jj.1).wf = true ∧ (Lit.int J jj.2.1).wf = true ∧ (Lit.int J jj.2.2.1).wf = true) := by
 obtain ⟨xs, k, hk, hxy, _, hxl, hf⟩ := DataW.trod_struct Tryz.underlying25 h
 match xs, hxl, cs, hlen with
 | [y0, y1, y2, y3], _, [v0, v1, v2, v3], _ =>
  have g0 := hf 0 _ rfl;have g1 := hf 1 _ rfl;have g2 := hf 2 _ rfl;have g3 := hf 3 _ rfl;simp [zim, zna] at g0 g1 g2 g3
  obtain ⟨n0, q0, _, w0⟩ := DataW.trod_int Tryz.underlying3 g0;obtain ⟨n1, q1, _, w1⟩ := DataW.trod_int Tryz.underlying3 g1;obtain ⟨n2, q2, _, w2⟩ := DataW.trod_int Tryz.underlying3 g2;obtain ⟨a, cap, l, q3, hp, hc, hm⟩ := zkh g3;simp at q0 q1 q2 q3
  subst q0 q1 q2 q3;exact ⟨(n0, n1, n2, (a, cap), l), rfl, hp, hc, hm, w0, w1, w2⟩
theorem open_msgV {fuel : Nat} {v : Value} {x : DataW H × List MemPlace} (hv : Value.okWide Tryz.prog w .any base 25 v) (h : DataW.trod enc Tryz.prog w 0 spare held fuel 25 v.cells.toList = some x) :
  ∃ jj : XM, v = .agg #[E J jj.1, E J jj.2.1, E J jj.2.2.1, G jj.2.2.2.1.1 jj.2.2.2.2.length jj.2.2.2.1.2] ∧ zae w jj.2.2.2.1.1 jj.2.2.2.2 ∧ jj.2.2.2.2.length ≤ 9223372036854775807 ∧ (Lit.int J jj.1).wf = true ∧ (Lit.int J jj.2.1).wf = true ∧ (Lit.int J jj.2.2.1).wf = true := by
 unfold Value.okWide at hv
 rw [Tryz.underlying25] at hv;obtain ⟨cs, rfl, hsz, _⟩ := hv;rw [cellsMsg4] at hsz;obtain ⟨jj, e, h1, h2, h3, h4⟩ := open_msgC _ _ _ (by simpa [Value.cells] using hsz) h;have e' : cs.toList = zb3 jj := by simpa [Value.cells] using e
 refine ⟨jj, ?_, h1, by unfold maxLen at h3; omega, h4⟩;rw [← Array.toArray_toList (xs := cs), e'];rfl
end
open Go.ChangeShapes Go.WideShapes Go.ChangeAt Go.RowKit Go.Deep
theorem ownS : ownKnob Tryz.prog.godebug = U := by kernel_rfl
theorem laidOutS : laidOutB Tryz.prog = true := by kernel_rfl
theorem zn3 (os : Os) (started : os.Started) (H : Type) (enc : TypeId × Value → H) :
  ReturnsInHanded {} Tryz.checked os 3 .any (Rows.headTellsSpec.pre6 enc Tryz.prog Tryz.f3 Rows.headTellsRow.domain false) (Rows.headTellsSpec.post enc Tryz.prog Tryz.f3 false true false false) := by
 refine returnsInHanded_of_change (C := Tryz.checked) ownS started (by kernel_rfl) Tryz.func3
  (ChangeSpec.witness6 (enc := enc) (C := Tryz.checked) false ⟨#[], #[E J 0, G U 0 0, .agg #[E J 0, E J 0, E J 0, G U 0 0], G U 0 0], []⟩ 8 (by kernel_rfl) (by kernel_rfl) (by kernel_rfl) (by kernel_rfl)) ?_
 intro W base args ds gs before hval0 hW hcnd _;have hval : ∀ (j : Nat) t v, Tryz.f3.params[j]? = some t → args[j]? = some v → Value.okWide Tryz.prog W .any base t v := hval0;have hW' := hW;obtain ⟨p, q, hA0, hV, rfl, hfz, hnd⟩ := hW;have hA : DataW.TrodAll enc Tryz.prog W 0 (fun _ => true) true Tryz.f3.params.toList args.toList ds p := hA0;rw [Tryz.params3] at hA hval;obtain ⟨v0, v1, v2, v3, d0, d1, d2, d3, p0, p1, p2, p3, rfl, rfl, rfl, h0, h1, h2, h3⟩ := trodAll_four hA;obtain ⟨rfl, rfl⟩ := trodVars_none hV;have k0 := h0;have k1 := h1;have k2 := h2;have k3 := h3;have lt0 : ∀ x ∈ p0, x.block < W.heap.size := by obtain ⟨m, hm⟩ := k0; exact DataW.trod_lt m _ _ _ hm
 have lt1 : ∀ x ∈ p1, x.block < W.heap.size := by obtain ⟨m, hm⟩ := k1; exact DataW.trod_lt m _ _ _ hm
 have lt2 : ∀ x ∈ p2, x.block < W.heap.size := by obtain ⟨m, hm⟩ := k2; exact DataW.trod_lt m _ _ _ hm
 have lt3 : ∀ x ∈ p3, x.block < W.heap.size := by obtain ⟨m, hm⟩ := k3; exact DataW.trod_lt m _ _ _ hm
 obtain ⟨f1, h1⟩ := h1;obtain ⟨f2, h2⟩ := h2;obtain ⟨f3, h3⟩ := h3;obtain ⟨n0, rfl⟩ := okWide_int Tryz.underlying3 (hval 0 3 v0 rfl rfl);obtain ⟨a1, cap1, S1, rfl, hp1, hx1, hc1, hm1⟩ := zql (hval 1 22 v1 rfl rfl) h1;obtain ⟨r2, rfl, hp2, hl2, -⟩ := open_msgV (hval 2 25 v2 rfl rfl) h2;obtain ⟨a3, cap3, l3, rfl, hp3, hc3, hm3⟩ := zo7 (hval 3 23 v3 rfl rfl) h3;clear hA0 hval0;refine (zok n0 a1 cap1 _ S1 r2.1 r2.2.1 r2.2.2.1 r2.2.2.2.1.1 _ _ r2.2.2.2.2 a3 _ cap3 l3 W rfl hp1 (fun x hx => (hx1 x hx).1) (by unfold maxLen at hm1; omega) rfl hl2 hp2 rfl (by unfold maxLen at hm3; omega) hp3).mono fun e W' ⟨he, bel⟩ => ?_
 subst he;exact ⟨_, rfl, _, _, _, [], _, [], hW', trodAll_mk1 (shut_bool Tryz.underlying4 _), trodAll_mk4 (Below.trod laidOutS (by kernel_rfl) (of_decide_eq_true (by kernel_rfl)) k0 bel lt0) (Below.trod laidOutS (by kernel_rfl) (of_decide_eq_true (by kernel_rfl)) k1 bel lt1) (Below.trod laidOutS (by kernel_rfl) (of_decide_eq_true (by kernel_rfl)) k2 bel lt2) (Below.trod laidOutS (by kernel_rfl) (of_decide_eq_true (by kernel_rfl)) k3 bel lt3), rfl, bel.frame _, fun h => by cases h⟩
theorem headTells_holds : Rows.HeadTellsSaid :=
 OpenClaim.holds_of_wide 3 Tryz.f3 rfl rfl rfl rfl rfl rfl rfl ⟨rfl, rfl, rfl, rfl, rfl⟩ rfl rfl rfl rfl rfl (by kernel_rfl) Tryz.func3 (by kernel_rfl)
  (of_decide_eq_true (by kernel_rfl)) (by unfold Func.isWrapper; first | (rw [if_pos (by decide +kernel)]; kernel_rfl) | (rw [if_neg (by decide +kernel)]; exact ⟨rfl, rfl⟩))
  (fun os started H enc _ => zn3 os started H enc)
end Go.Proofs.YtpcnlifmkhagkaaGreat
