/- Plain: how the document's Read goes over bytes, and that it comes to what readB comes to. -/
import Derived.Test.YtmjekpdgmdpndaaKWire0
namespace Go.Proofs.Ytmjekpdgmdpndaa
open Go.RowKit

/-- Numbers, one by one, as many as are wanted; the third one tells how many. -/
def numsR : Nat → List Int → Nat → List Nat → List Int × List Nat × Int
  | 0, ns, _, l => (ns, l, 0)
  | f + 1, ns, want, l =>
    if ns.length < want then
      (if (getB l).2.2 = 0 then
        (if ns.length = 2 then (if (getB l).1 < 0 ∨ 4 < (getB l).1 then (ns, l, 5) else numsR f (ns ++ [(getB l).1]) (3 + 2 * (getB l).1.toNat) (l.drop (getB l).2.1))
         else numsR f (ns ++ [(getB l).1]) want (l.drop (getB l).2.1))
       else (ns, l, (getB l).2.2))
    else (ns, l, 0)
/-- Parts of numbers. -/
def pairsR (h : Int) : List Int → List P3
  | k :: n :: t => (h, k, n) :: pairsR h t
  | _ => []
def readR (b : List Nat) : M4 × Int :=
  if b.length < 3 then (m0, 8)
  else if sumB (b.take (b.length - 2)) = endB b then
    (let r := numsR 12 [] 3 ((b.take (b.length - 2)).drop 1)
     if r.2.2 = 0 then (if 0 < r.2.1.length then (m0, 2) else
       (let m : M4 := ((((b.take (b.length - 2)).getD 0 0 : Nat) : Int), r.1.getD 0 0, r.1.getD 1 0, pairsR (r.1.getD 1 0) (r.1.drop 3))
        if wrongM m = 0 then (m, 0) else (m0, wrongM m))) else (m0, r.2.2))
  else (m0, 7)

theorem stepB_zero (l : List Nat) : stepB (l, 0) = ((getB l).1, l.drop (getB l).2.1, (getB l).2.2) := by simp [stepB]
theorem stepB_err {l : List Nat} {e : Int} (h : e ≠ 0) : stepB (l, e) = (0, l, e) := by simp [stepB, h]
theorem partsGo_err (h : Int) : ∀ (m : Nat) {l : List Nat} {e : Int}, e ≠ 0 → partsGo h m (l, e) = ([], l, e)
  | 0, _, _, _ => rfl
  | m + 1, _, _, he => by simp [partsGo, he]
theorem numsR_parts (h : Int) : ∀ (m f : Nat) (ns : List Int) (l : List Nat), 3 ≤ ns.length → 2 * m + 1 ≤ f →
    (numsR f ns (ns.length + 2 * m) l).2.2 = (partsGo h m (l, 0)).2.2 ∧ ((partsGo h m (l, 0)).2.2 = 0 → numsR f ns (ns.length + 2 * m) l = (ns ++ (partsGo h m (l, 0)).1.flatMap (fun p => [p.2.1, p.2.2]), (partsGo h m (l, 0)).2.1, 0) ∧ ∀ p ∈ (partsGo h m (l, 0)).1, p.1 = h)
  | 0, f, ns, l, _, hf => by
    obtain ⟨f, rfl⟩ : ∃ g, f = g + 1 := ⟨f - 1, by omega⟩
    simp [numsR, partsGo]
  | m + 1, f, ns, l, h3, hf => by
    obtain ⟨f, rfl⟩ : ∃ g, f = g + 1 + 1 := ⟨f - 2, by omega⟩
    have e1 : numsR (f + 1 + 1) ns (ns.length + 2 * (m + 1)) l = if (getB l).2.2 = 0 then numsR (f + 1) (ns ++ [(getB l).1]) (ns.length + 2 * (m + 1)) (l.drop (getB l).2.1) else (ns, l, (getB l).2.2) := by
      conv => lhs; unfold numsR
      rw [if_pos (by omega), if_neg (show ¬ ns.length = 2 by omega)]
    by_cases g1 : (getB l).2.2 = 0
    · rw [e1, if_pos g1]
      generalize hl1 : l.drop (getB l).2.1 = l1
      have e2 : numsR (f + 1) (ns ++ [(getB l).1]) (ns.length + 2 * (m + 1)) l1 = if (getB l1).2.2 = 0 then numsR f (ns ++ [(getB l).1] ++ [(getB l1).1]) (ns.length + 2 * (m + 1)) (l1.drop (getB l1).2.1) else (ns ++ [(getB l).1], l1, (getB l1).2.2) := by
        conv => lhs; unfold numsR
        rw [if_pos (by simp; omega), if_neg (show ¬ (ns ++ [(getB l).1]).length = 2 by simp; omega)]
      have e3 : partsGo h (m + 1) (l, 0) = ((h, (getB l).1, (stepB (l1, 0)).1) :: (partsGo h m (stepB (l1, 0)).2).1, (partsGo h m (stepB (l1, 0)).2).2) := by
        simp only [partsGo, stepB_zero, g1, hl1, if_true]
      rw [e3, e2, stepB_zero]
      by_cases g2 : (getB l1).2.2 = 0
      · rw [if_pos g2, g2]
        generalize l1.drop (getB l1).2.1 = l2
        obtain ⟨i1, i2⟩ := numsR_parts h m f (ns ++ [(getB l).1] ++ [(getB l1).1]) l2 (by simp; omega) (by omega)
        have el : (ns ++ [(getB l).1] ++ [(getB l1).1]).length + 2 * m = ns.length + 2 * (m + 1) := by simp; omega
        rw [el] at i1 i2
        refine ⟨i1, fun h0 => ?_⟩
        obtain ⟨j1, j2⟩ := i2 h0
        refine ⟨?_, fun p hp => ?_⟩
        · rw [j1]; simp
        · rcases List.mem_cons.1 hp with rfl | hp
          · rfl
          · exact j2 p hp
      · rw [if_neg g2, partsGo_err h m g2]
        exact ⟨rfl, fun h0 => absurd h0 g2⟩
    · rw [e1, if_neg g1]
      have e3 : (partsGo h (m + 1) (l, 0)).2.2 = (getB l).2.2 := by
        simp only [partsGo, stepB_zero, if_true]
        rw [stepB_err g1, partsGo_err h m g1]
      rw [e3]
      exact ⟨rfl, fun h0 => absurd h0 g1⟩
theorem pairs_back (h : Int) : ∀ (ps : List P3), (∀ p ∈ ps, p.1 = h) → pairsR h (ps.flatMap fun p => [p.2.1, p.2.2]) = ps
  | [], _ => rfl
  | p :: t, hp => by
    have e : (p :: t).flatMap (fun p : P3 => [p.2.1, p.2.2]) = p.2.1 :: p.2.2 :: t.flatMap (fun p : P3 => [p.2.1, p.2.2]) := by simp
    rw [e]
    show (h, p.2.1, p.2.2) :: pairsR h _ = _
    rw [pairs_back h t (fun q hq => hp q (List.mem_cons_of_mem _ hq)), ← hp p (List.mem_cons_self ..)]
theorem message_nums (b : List Nat) : (messageB b).2 = (if (numsR 12 [] 3 (b.drop 1)).2.2 = 0 then (if 0 < (numsR 12 [] 3 (b.drop 1)).2.1.length then 2 else 0) else (numsR 12 [] 3 (b.drop 1)).2.2) ∧
    ((messageB b).2 = 0 → (messageB b).1 = (((b.getD 0 0 : Nat) : Int), (numsR 12 [] 3 (b.drop 1)).1.getD 0 0, (numsR 12 [] 3 (b.drop 1)).1.getD 1 0, pairsR ((numsR 12 [] 3 (b.drop 1)).1.getD 1 0) ((numsR 12 [] 3 (b.drop 1)).1.drop 3))) := by
  generalize hl : b.drop 1 = l
  have e1 : numsR 12 [] 3 l = if (getB l).2.2 = 0 then numsR 11 [(getB l).1] 3 (l.drop (getB l).2.1) else ([], l, (getB l).2.2) := by
    conv => lhs; unfold numsR
    rw [if_pos (by decide), if_neg (show ¬ ([] : List Int).length = 2 by decide)]
    rfl
  unfold messageB
  simp only [hl, stepB_zero]
  by_cases g1 : (getB l).2.2 = 0
  · rw [e1, if_pos g1, g1]
    generalize l.drop (getB l).2.1 = l1
    generalize (getB l).1 = x0
    have e2 : numsR 11 [x0] 3 l1 = if (getB l1).2.2 = 0 then numsR 10 [x0, (getB l1).1] 3 (l1.drop (getB l1).2.1) else ([x0], l1, (getB l1).2.2) := by
      conv => lhs; unfold numsR
      rw [if_pos (by simp), if_neg (show ¬ [x0].length = 2 by simp)]
      rfl
    rw [e2, stepB_zero]
    by_cases g2 : (getB l1).2.2 = 0
    · rw [if_pos g2, g2]
      generalize l1.drop (getB l1).2.1 = l2
      generalize (getB l1).1 = x1
      have e3 : numsR 10 [x0, x1] 3 l2 = if (getB l2).2.2 = 0 then (if (getB l2).1 < 0 ∨ 4 < (getB l2).1 then ([x0, x1], l2, 5) else numsR 9 [x0, x1, (getB l2).1] (3 + 2 * (getB l2).1.toNat) (l2.drop (getB l2).2.1)) else ([x0, x1], l2, (getB l2).2.2) := by
        conv => lhs; unfold numsR
        rw [if_pos (by simp), if_pos (show [x0, x1].length = 2 by rfl)]
        rfl
      rw [e3, stepB_zero]
      by_cases g3 : (getB l2).2.2 = 0
      · rw [if_pos g3]
        by_cases g4 : (getB l2).1 < 0 ∨ 4 < (getB l2).1
        · rw [if_pos g4]
          have e5 : many5 ((getB l2).1, l2.drop (getB l2).2.1, (getB l2).2.2) = 5 := by unfold many5; rw [if_pos ⟨g3, g4⟩]
          rw [e5, partsGo_err _ _ (show (5 : Int) ≠ 0 by decide)]
          simp [left2]
        · rw [if_neg g4]
          have e5 : many5 ((getB l2).1, l2.drop (getB l2).2.1, (getB l2).2.2) = 0 := by unfold many5; rw [if_neg (fun h => g4 h.2)]; exact g3
          rw [e5]
          generalize l2.drop (getB l2).2.1 = l3
          generalize (getB l2).1 = x2 at *
          obtain ⟨i1, i2⟩ := numsR_parts x1 x2.toNat 9 [x0, x1, x2] l3 (by simp) (by omega)
          have el : [x0, x1, x2].length + 2 * x2.toNat = 3 + 2 * x2.toNat := rfl
          rw [el] at i1 i2
          rw [i1]
          by_cases g5 : (partsGo x1 x2.toNat (l3, 0)).2.2 = 0
          · obtain ⟨j1, j2⟩ := i2 g5
            rw [j1, if_pos g5]
            refine ⟨by simp only [left2]; rw [g5]; simp, fun _ => ?_⟩
            have : ([x0, x1, x2] ++ (partsGo x1 x2.toNat (l3, 0)).1.flatMap fun p => [p.2.1, p.2.2]).drop 3 = (partsGo x1 x2.toNat (l3, 0)).1.flatMap fun p => [p.2.1, p.2.2] := rfl
            rw [this]
            have h0 : ([x0, x1, x2] ++ (partsGo x1 x2.toNat (l3, 0)).1.flatMap fun p => [p.2.1, p.2.2]).getD 0 0 = x0 := rfl
            have h1 : ([x0, x1, x2] ++ (partsGo x1 x2.toNat (l3, 0)).1.flatMap fun p => [p.2.1, p.2.2]).getD 1 0 = x1 := rfl
            rw [h0, h1, pairs_back x1 _ j2]
          · rw [if_neg g5]
            have : left2 (partsGo x1 x2.toNat (l3, 0)).2 = (partsGo x1 x2.toNat (l3, 0)).2.2 := by unfold left2; rw [if_neg (fun h => g5 h.1)]
            rw [this]
            exact ⟨rfl, fun h => absurd h g5⟩
      · rw [if_neg g3]
        have e5 : many5 ((getB l2).1, l2.drop (getB l2).2.1, (getB l2).2.2) = (getB l2).2.2 := by unfold many5; rw [if_neg (fun h => g3 h.1)]
        rw [e5, partsGo_err _ _ g3]
        simp [left2, g3]
    · rw [if_neg g2, stepB_err g2]
      have e5 : many5 (0, l1.drop (getB l1).2.1, (getB l1).2.2) = (getB l1).2.2 := by unfold many5; rw [if_neg (fun h => g2 h.1)]
      rw [e5, partsGo_err _ _ g2]
      simp [left2, g2]
  · rw [e1, if_neg g1, stepB_err g1, stepB_err g1]
    have e5 : many5 (0, l.drop (getB l).2.1, (getB l).2.2) = (getB l).2.2 := by unfold many5; rw [if_neg (fun h => g1 h.1)]
    rw [e5, partsGo_err _ _ g1]
    simp [left2, g1]
theorem readR_readB (b : List Nat) : readR b = readB b := by
  unfold readR readB
  split
  · rfl
  · split
    · obtain ⟨h1, h2⟩ := message_nums (b.take (b.length - 2))
      generalize numsR 12 [] 3 ((b.take (b.length - 2)).drop 1) = r at *
      generalize messageB (b.take (b.length - 2)) = q at *
      obtain ⟨m, e⟩ := q
      simp only at h1 h2 ⊢
      by_cases c : r.2.2 = 0
      · rw [if_pos c] at h1 ⊢
        by_cases c2 : 0 < r.2.1.length
        · rw [if_pos c2] at h1 ⊢
          rw [h1]
          rfl
        · rw [if_neg c2] at h1 ⊢
          rw [if_pos h1, h2 h1]
      · rw [if_neg c] at h1 ⊢
        rw [h1, if_neg c, if_neg c]
    · rfl

end Go.Proofs.Ytmjekpdgmdpndaa
