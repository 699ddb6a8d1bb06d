/- Several texts in one: How a net that is an argument is read, and how long its messages may be; Proved: whatever net, messages and place NetTells is called with, it returns true, and each argument reads afterwards as it read before. No condition. -/
import Derived.Test.YtmjekpdgmdpndaaKJ38
import Derived.Test.YtmjekpdgmdpndaaKWorV
import Derived.Test.YtmjekpdgmdpndaaRows
import Derived.Test.YtmjekpdgmdpndaaKNetTells
import Derived.SizedLaws
import Derived.ProofKit
import Derived.OpenShut
import Derived.ChangeOld
namespace Go.Proofs.Ytmjekpdgmdpndaa
open Go.ChangeShapes Go.WideShapes Go.ChangeAt Go.RowKit Go.Deep

section
variable {H : Type} {enc : TypeId × Value → H} {w : World} {base : Nat} {spare : Nat → Bool} {held : Bool}

theorem weights_all {P : Program} {e : TypeId} : ∀ {ds : List (DataW H)} {d : DataW H}, d ∈ ds → ∀ n ∈ d.weights P e, n ∈ DataW.weightsAll P e ds
  | d0 :: r, d, h, n, hn => by
    simp only [DataW.weightsAll, List.mem_append]
    rcases List.mem_cons.1 h with rfl | h
    · exact Or.inl hn
    · exact Or.inr (weights_all h n hn)
theorem cellsBs : Try.prog.cellsOf 57 = 1 := by kernel_rfl
theorem bytesU8' : Try.prog.bytesOf 5 = 1 := by kernel_rfl
/-- Bytes that came in, within a list, as they lie in a cell. -/
theorem open_bytesW (fuel : Nat) (cs : List Value) (x : DataW H × List MemPlace) (hw : ∀ n ∈ x.1.weights Try.prog 57, n ≤ reachBytes) (h : DataW.trod enc Try.prog w 0 spare held fuel 57 cs = some x) :
    ∃ y : XN, cs = encN y ∧ (BytesAt w y.1.1 y.2 ∧ Byt y.2 ∧ (y.2.length ≤ y.1.2 ∧ y.1.2 ≤ maxLen) ∧ y.2.length ≤ reachBytes) := by
  obtain ⟨a, cap, l, hcs, h1, h2, h3, h4⟩ := open_bytesC h
  refine ⟨((a, cap), l), hcs, h1, h2, ⟨h3, h4⟩, ?_⟩
  rcases open_slice Try.underlying57 h with ⟨hc0, _⟩ | ⟨ad, len, cap', m, n, D, Pl, hc1, hb, hl, hm, hmm, hx, _⟩
  · rw [hcs] at hc0
    simp at hc0
    rw [hc0.2.1]
    simp
  · rw [hcs] at hc1
    simp at hc1
    obtain ⟨_, e, _⟩ := hc1
    subst hx
    have := hw ((((List.range len).map D).length + ((List.range (m - len)).map fun j => D (len + j)).length) * Try.prog.bytesOf 5) (by simp [DataW.weights, Try.underlying57])
    rw [bytesU8'] at this
    simp at this
    show l.length ≤ reachBytes
    omega
set_option maxRecDepth 100000 in
/-- A net that came in. -/
theorem open_net {fuel : Nat} {v : Value} {x : DataW H × List MemPlace} (hv : Value.okWide Try.prog w .any base 48 v) (hw : ∀ n ∈ x.1.weights Try.prog 48, n ≤ reachBytes) (h : DataW.trod enc Try.prog w 0 spare held fuel 48 v.cells.toList = some x) :
    ∃ (a : Option Addr) (cap : Nat) (X : List XN), v = .slice a X.length cap ∧ NetF (fun _ => False) w a X.length X (X.map (·.2)) ∧ (∀ b ∈ X.map (·.2), Byt b ∧ b.length ≤ 140737488355328) ∧ X.length ≤ cap ∧ cap ≤ maxLen := by
  obtain ⟨a, len, cap, rfl⟩ := okWide_slice Try.underlying48 hv
  rcases open_slice Try.underlying48 h with ⟨hcs, _⟩ | ⟨ad, len', cap', m, n, D, Pl, hcs, hb, hl, hm, hmm, hxx, hx⟩
  · simp [Value.cells] at hcs
    obtain ⟨rfl, rfl, rfl⟩ := hcs
    exact ⟨none, 0, [], rfl, NetF.nil _ _ _, (fun b hb => by cases hb), Nat.le_refl _, Nat.zero_le _⟩
  · simp [Value.cells] at hcs
    obtain ⟨rfl, rfl, rfl⟩ := hcs
    subst hxx
    have hlm : len ≤ m := by rw [hmm]; split <;> omega
    have each : ∀ i, i < len → ∃ y : XN, w.cell? (ad.add i) = some (.slice y.1.1 y.2.length y.1.2) ∧ (BytesAt w y.1.1 y.2 ∧ Byt y.2 ∧ (y.2.length ≤ y.1.2 ∧ y.1.2 ≤ maxLen) ∧ y.2.length ≤ reachBytes) := by
      intro i hi
      obtain ⟨cs', h1, h2⟩ := hx i (by omega)
      rw [cellsBs] at h1
      obtain ⟨_, hlen, hcell⟩ := World.cells?_some h1
      obtain ⟨y, rfl, hy⟩ := open_bytesW _ _ _ (fun q hq => hw q (by
        have hd : D i ∈ (List.range len).map D := List.mem_map.2 ⟨i, List.mem_range.2 hi, rfl⟩
        have h3 := weights_all (P := Try.prog) (e := 57) hd q hq
        simp only [DataW.weights, Try.underlying48, List.mem_cons, List.mem_append]
        exact Or.inr (Or.inl h3))) h2
      have e0 := hcell 0 (by omega)
      rw [add_add] at e0
      exact ⟨y, by simpa [encN] using e0, hy⟩
    obtain ⟨f, hf⟩ := choose_lt (α := XN) each
    have hlX : ((List.range len).map f).length = len := by simp
    refine ⟨some ad, cap, (List.range len).map f, by rw [hlX], ⟨rfl, ?_, Or.inr (fun _ _ h => h), rfl, fun y hy => ?_, fun y hy => ?_⟩, fun b hb => ?_, by rw [hlX]; exact hl, hm⟩
    · by_cases hz : len = 0
      · subst hz; exact Or.inl rfl
      · have c0 := (hf 0 (by omega)).1
        obtain ⟨b, o, spot⟩ := ad
        have hspot : spot = none := by simpa [Addr.add] using World.cell?_spot c0
        subst hspot
        refine Or.inr ⟨b, o, rfl, ?_, fun i hi j u hu' => ?_⟩
        · have := block_of_cell c0
          simpa [Addr.add] using this
        · have hi' : i < len := by simpa using hi
          have hj : j = 0 := by
            rcases Nat.eq_zero_or_pos j with h0 | h0
            · exact h0
            · rw [List.getElem?_eq_none (by rw [lenN]; omega)] at hu'; cases hu'
          subst hj
          have c1 := (hf i hi').1
          have hadd : ∀ j, (⟨b, o, none⟩ : Addr).add j = ⟨b, o + j, none⟩ := by intro j; unfold Addr.add; split <;> simp_all
          rw [hadd] at c1
          simp [encN] at hu'
          rw [← hu']
          simpa using c1
    · simp only [List.mem_map, List.mem_range] at hy
      obtain ⟨i, hi, rfl⟩ := hy
      exact ⟨(hf i hi).2.1, Or.inr (fun _ _ h => h)⟩
    · simp only [List.mem_map, List.mem_range] at hy
      obtain ⟨i, hi, rfl⟩ := hy
      exact (hf i hi).2.2.2.1
    · simp only [List.mem_map, List.mem_range] at hb
      obtain ⟨y, ⟨i, hi, rfl⟩, rfl⟩ := hb
      have h1 := (hf i hi).2.2.2.2
      exact ⟨(hf i hi).2.2.1, by simp only [reachBytes] at h1; omega⟩
end
end Go.Proofs.Ytmjekpdgmdpndaa

namespace Go.Proofs.Ytmjekpdgmdpndaa
open Go.ChangeShapes Go.WideShapes Go.ChangeAt Go.RowKit Go.Deep

theorem ownS : ownKnob Try.prog.godebug = none := by kernel_rfl
theorem laidOutS : laidOutB Try.prog = true := by kernel_rfl

set_option maxRecDepth 100000 in
theorem netTells_lifted (os : Os) (started : os.Started) (H : Type) (enc : TypeId × Value → H) :
    ReturnsInHanded {} Try.checked os 4 .any (Rows.netTellsSpec.pre6 enc Try.prog Try.f4 Rows.netTellsRow.domain false) (Rows.netTellsSpec.post enc Try.prog Try.f4 false true false false) := by
  refine returnsInHanded_of_change_sized (C := Try.checked) ownS started (by kernel_rfl) Try.func4
    (ChangeSpec.witness6 (enc := enc) (C := Try.checked) false ⟨#[], #[.slice none 0 0, .slice none 0 0, .int .i64 0], []⟩ 8 (by kernel_rfl) (by kernel_rfl) (by kernel_rfl) (by kernel_rfl)) ?_
  intro W base args ds gs before hval0 hW hcnd hsz0 _
  have hsz : (DataW.weightsEach Try.prog (Try.f4.params.toList ++ Rows.netTellsSpec.plain.varTypes Try.prog) (ds ++ gs)).all (· ≤ reachBytes) = true := hsz0
  have hval : ∀ (j : Nat) t v, Try.f4.params[j]? = some t → args[j]? = some v → Value.okWide Try.prog W .any base t v := hval0
  have hW' := hW
  obtain ⟨p, q, hA0, hV, rfl, hfz, hnd⟩ := hW
  have hA : DataW.TrodAll enc Try.prog W 0 (fun _ => true) true Try.f4.params.toList args.toList ds p := hA0
  rw [Try.params4] at hA hval hsz
  obtain ⟨v0, v1, v2, d0, d1, d2, p0, p1, p2, rfl, rfl, rfl, h0, h1, h2⟩ := trodAll_three hA
  obtain ⟨rfl, rfl⟩ := trodVars_none hV
  have k0 := h0
  have k1 := h1
  have k2 := h2
  have lt0 : ∀ x ∈ p0, x.block < W.heap.size := by obtain ⟨m, hm⟩ := k0; exact DataW.trod_lt m _ _ _ hm
  have lt1 : ∀ x ∈ p1, x.block < W.heap.size := by obtain ⟨m, hm⟩ := k1; exact DataW.trod_lt m _ _ _ hm
  have lt2 : ∀ x ∈ p2, x.block < W.heap.size := by obtain ⟨m, hm⟩ := k2; exact DataW.trod_lt m _ _ _ hm
  obtain ⟨f0, h0⟩ := h0
  obtain ⟨f1, h1⟩ := h1
  obtain ⟨a, cap, X, rfl, hN, hby, hcap, _⟩ := open_net (hval 0 48 v0 rfl rfl) (fun n hn => by simpa using List.all_eq_true.1 hsz n (DataW.weights_mem_each (j := 0) (t := 48) rfl rfl n hn)) h0
  obtain ⟨am, cm, U, rfl, hq, hr, hcm, hmm⟩ := open_msgs (hval 1 24 v1 rfl rfl) h1
  obtain ⟨i, rfl⟩ := okWide_int Try.underlying3 (hval 2 3 v2 rfl rfl)
  clear hA0 hval0
  refine (netTells_law a _ cap X _ am _ cm U (U.map stripM) i W hN (fun b hb => (hby b hb).1) (fun b hb => (hby b hb).2) ⟨rfl, hq, Or.inr (fun _ _ h => h), rfl, fun x hx => (hr x hx).1.outR (fun _ h => h.elim)⟩ (fun x hx => (hr x hx).2.1) (by unfold maxLen at hmm; omega) hcap).mono fun e W' ⟨he, bel⟩ => ?_
  subst he
  exact ⟨_, rfl, _, _, _, [], _, [], hW', trodAll_mk1 (shut_bool Try.underlying4 _), trodAll_mk3 (Below.trod laidOutS (by kernel_rfl) (of_decide_eq_true (by kernel_rfl)) k0 bel lt0) (Below.trod laidOutS (by kernel_rfl) (of_decide_eq_true (by kernel_rfl)) k1 bel lt1) (Below.trod laidOutS (by kernel_rfl) (of_decide_eq_true (by kernel_rfl)) k2 bel lt2), rfl, bel.frame _, fun h => by cases h⟩

theorem netTells_holds : Rows.NetTellsSaid :=
  OpenClaim.holds_of_wide 4 Try.f4 rfl rfl rfl rfl rfl rfl rfl ⟨rfl, rfl, rfl, rfl, rfl⟩ rfl rfl rfl rfl rfl (by kernel_rfl) Try.func4 (by kernel_rfl)
    (of_decide_eq_true (by kernel_rfl)) (by unfold Func.isWrapper; first | (rw [if_pos (by decide +kernel)]; kernel_rfl) | (rw [if_neg (by decide +kernel)]; exact ⟨rfl, rfl⟩))
    (fun os started H enc _ => netTells_lifted os started H enc)

end Go.Proofs.Ytmjekpdgmdpndaa
