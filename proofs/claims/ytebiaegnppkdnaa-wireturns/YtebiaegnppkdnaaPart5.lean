/- What part.Of and part.keep do: a new slice that owns the parts of one house, in turn. -/
import Derived.Test.YtebiaegnppkdnaaPart
import Derived.Deep.AppendLies
import Derived.WalkSmall
namespace Go.Proofs.Ytebiaegnppkdnaa
open Go.RowKit

def cells3 (l : List P3) : List Value := l.flatMap fun p => [.int .i64 p.1, .int .i64 p.2.1, .int .i64 p.2.2]
theorem cells3_len (l : List P3) : (cells3 l).length = l.length * 3 := by
  induction l with
  | nil => rfl
  | cons p t ih => simp only [cells3, List.flatMap_cons, List.length_append, List.length_cons, List.length_nil] at *; omega
theorem cells3_snoc (l : List P3) (p : P3) : cells3 (l ++ [p]) = cells3 l ++ [.int .i64 p.1, .int .i64 p.2.1, .int .i64 p.2.2] := by simp [cells3]
theorem cells3_get : ∀ (l : List P3) (i : Nat) (h : i < l.length), (cells3 l)[i * 3]? = some (.int .i64 l[i].1) ∧ (cells3 l)[i * 3 + 1]? = some (.int .i64 l[i].2.1) ∧ (cells3 l)[i * 3 + 2]? = some (.int .i64 l[i].2.2)
  | p :: t, 0, _ => by simp [cells3]
  | p :: t, i + 1, h => by
    have ih := cells3_get t i (by simpa using h)
    have e : cells3 (p :: t) = [.int .i64 p.1, .int .i64 p.2.1, .int .i64 p.2.2] ++ cells3 t := by simp [cells3]
    rw [e]
    refine ⟨?_, ?_, ?_⟩
    · rw [List.getElem?_append_right (by simp; omega)]; simpa [show (i + 1) * 3 - 3 = i * 3 by omega] using ih.1
    · rw [List.getElem?_append_right (by simp; omega)]; simpa [show (i + 1) * 3 + 1 - 3 = i * 3 + 1 by omega] using ih.2.1
    · rw [List.getElem?_append_right (by simp; omega)]; simpa [show (i + 1) * 3 + 2 - 3 = i * 3 + 2 by omega] using ih.2.2

/-- The value v owns the parts l, in blocks from base on. -/
def OwnP (w : World) (base : Nat) (v : Value) (l : List P3) : Prop := w.ownsRow base 36 3 v l.length (cells3 l)

theorem ownsRow_below {w w' : World} {base : Nat} {e : TypeId} {size : Nat} {v : Value} {n : Nat} {xs : List Value} (h : w.ownsRow base e size v n xs) {B : Nat} (hb : Below B w w') (hB : w.heap.size ≤ B) : w'.ownsRow base e size v n xs := by
  refine ⟨h.1, ?_⟩
  rcases h.2 with h0 | ⟨g, cap, cur, hv, hg, hh, r⟩
  · exact Or.inl h0
  · refine Or.inr ⟨g, cap, cur, hv, hg, ?_, r⟩
    have hlt : g < w.heap.size := by
      rcases Nat.lt_or_ge g w.heap.size with h' | h'
      · exact h'
      · rw [Array.getElem?_eq_none h'] at hh; cases hh
    rw [hb.block g (by omega)]; exact hh

theorem OwnP.below {w w' : World} {base : Nat} {v : Value} {l : List P3} (h : OwnP w base v l) {B : Nat} (hb : Below B w w') (hB : w.heap.size ≤ B) : OwnP w' base v l := ownsRow_below h hb hB

/-- What is owned lies in memory. -/
theorem OwnP.parts {w : World} {base : Nat} {v : Value} {l : List P3} (h : OwnP w base v l) : ∃ a cap, v = .slice a l.length cap ∧ PartsAt w a l ∧ l.length ≤ cap := by
  rcases h.2 with ⟨hv, h0⟩ | ⟨g, cap, cur, hv, hg, hh, hcap, _, hsz, htake⟩
  · exact ⟨none, 0, by rw [hv, h0], Or.inl (List.eq_nil_of_length_eq_zero h0), by omega⟩
  · refine ⟨_, cap, hv, Or.inr ⟨g, 0, rfl, ?_, fun i hi => ?_⟩, hcap⟩
    · rcases Nat.lt_or_ge g w.heap.size with h' | h'
      · exact h'
      · rw [Array.getElem?_eq_none h'] at hh; cases hh
    · have key : ∀ j u, (cells3 l)[j]? = some u → w.cell? ⟨g, j, none⟩ = some u := by
        intro j u hj
        rw [cell_of_row w g j cur _ _ hh]
        rw [← htake] at hj
        have hlt : j < l.length * 3 := by
          rcases Nat.lt_or_ge j (l.length * 3) with h' | h'
          · exact h'
          · rw [List.getElem?_eq_none (by simp; omega)] at hj; cases hj
        rw [List.getElem?_take_of_lt hlt] at hj
        simpa using hj
      obtain ⟨e0, e1, e2⟩ := cells3_get l i hi
      rw [Nat.zero_add]
      exact ⟨key _ _ e0, key _ _ e1, key _ _ e2⟩

theorem infoPart : (Try.prog.info? 36).map (fun i => (i.zero, i.size, i.bytes)) = some (some (.agg #[.int .i64 0, .int .i64 0, .int .i64 0]), 3, 24) := by kernel_rfl

/-- 'append(v, p)' where v is owned and p lies in a block of its own. -/
theorem wpList_append_part {ops : Array Oper} {rest : List Oper} {o : Oper} {a : Act} {Q : Exit → Act → World → Prop} (w : World) (hgd : o.guard = none) (s x : Operand)
    (ho : o.op = .call { callee := .builtin .append, args := #[s, x], argTypes := #[22, 22] })
    (base : Nat) (v : Value) (l : List P3) (hs : a.eval s = v) (hown : OwnP w base v l) (B : Nat) (p : P3) (hx : a.eval x = .slice (some ⟨B, 0, none⟩) 1 1)
    (hB : w.heap[B]? = some (.cells #[.int .i64 p.1, .int .i64 p.2.1, .int .i64 p.2.2] 36)) (hl : l.length ≤ 1000000) (hbase : base ≤ w.heap.size)
    (h : ∀ g cap w', OwnP w' base (.slice (some ⟨g, 0, none⟩) (l.length + 1) cap) (l ++ [p]) → w.grownBy w' v.ownBlock → (v.ownBlock = some g ∨ g = w.heap.size) → g < w'.heap.size → wpList Try.prog ops Q rest (a.put o.dst (.slice (some ⟨g, 0, none⟩) (l.length + 1) cap)) w') : wpList Try.prog ops Q (o :: rest) a w := by
  obtain ⟨i0, hi, hz0, hz1, hz2⟩ := info_parts infoPart
  refine wpList_append_lies w hgd s x 22 ho base 36 i0 _ 3 24 Try.underlying22 hi hz0 hz1 hz2 rfl (by decide) v l.length (cells3 l) hs hown ⟨B, 0, none⟩ 1 1 [.int .i64 p.1, .int .i64 p.2.1, .int .i64 p.2.2] hx rfl (World.news_of_block hB) ?_ (by decide) (by unfold maxLen; omega) (by omega) hbase w.heap.size rfl ?_
  · intro u hu
    simp at hu
    rcases hu with rfl | rfl | rfl <;> rfl
  · intro g cap w' h1 h2 h3 h4
    refine h g cap w' ?_ h2 h3 h4
    unfold OwnP
    rw [cells3_snoc]
    simpa using h1

set_option maxHeartbeats 400000 in
theorem ofTest_any (h k n H : Int) (b : Nat) (w : World) (hb : b < w.heap.size) (c0 : w.cell? ⟨b, 0, none⟩ = some (.int .i64 H)) :
    Calls Try.prog 33 #[.agg #[.int .i64 h, .int .i64 k, .int .i64 n], .pointer (some ⟨b, 0, none⟩)] w fun e w' => e = .returned (.bool (decide (h = H))) ∧ Below w.heap.size w w' := by
  go_enter Try.func33, Try.ntmps33
  go_wp2
  all_goals
    go_ret
    refine ⟨ret_bool ?_, below1 _ _⟩
    rw [Bool.eq_iff_iff]; simp_all

def ofB (l : List P3) (H : Int) : List P3 := l.filter fun p => decide (p.1 = H)
theorem ofB_yes (l : List P3) (p : P3) (H : Int) (h : p.1 = H) : ofB (l ++ [p]) H = ofB l H ++ [p] := by simp [ofB, List.filter_append, h]
theorem ofB_no (l : List P3) (p : P3) (H : Int) (h : ¬ p.1 = H) : ofB (l ++ [p]) H = ofB l H := by simp [ofB, List.filter_append, h]

set_option maxHeartbeats 1000000 in
theorem keep_any (H : Int) (b : Nat) (a : Option Addr) (l : List P3) (cap n : Nat) (w : World) (hn : n = l.length) (hl : l.length ≤ 4) (hp : PartsAt w a l) (hb : b < w.heap.size) (c0 : w.cell? ⟨b, 0, none⟩ = some (.int .i64 H)) :
    Calls Try.prog 32 #[.slice a n cap, .func (.func 33) #[] #[.pointer (some ⟨b, 0, none⟩)]] w fun e w' => ∃ v, e = .returned v ∧ OwnP w' w.heap.size v (ofB l H) ∧ Below w.heap.size w w' := by
  subst hn
  go_enter Try.func32, Try.ntmps32
  go_wp2
  go_loopw [5, 10] (fun v i w' => ∃ k : Nat, k ≤ l.length ∧ i = .int .i64 k ∧ OwnP w' w.heap.size v (ofB (l.take k) H) ∧ Below w.heap.size w w') (fun _ i _ => l.length - (intOf i).toNat)
  case atStart => exact ⟨0, Nat.zero_le _, rfl, World.ownsRow_nil _ _ _ _, Below.refl _ _⟩
  case round =>
    obtain ⟨k, hk, rfl, hown, hbw⟩ := hrel
    by_cases hlt : k < l.length
    · rcases hp with rfl | ⟨b', o, rfl, hb', hc⟩
      · simp at hlt
      obtain ⟨d0, d1, d2⟩ := hc k hlt
      clear hc
      obtain ⟨hcc, hff⟩ := bcell hbw
      have hsz := hbw.size
      go_wp2_with fail
      refine (ofTest_any _ _ _ H b _ (by simp; omega) (by rw [Below.cell (below1 wr _) (by show b < _; omega), hcc _ _ hb]; exact c0)).mono ?_
      rintro e w1 ⟨rfl, hb1⟩
      have hbr : Below wr.heap.size wr w1 := (below1 wr _).trans (hb1.mono (by simp))
      have hB1 : Below w.heap.size w w1 := hbw.trans (hbr.mono hsz)
      have hsz1 : wr.heap.size + 1 ≤ w1.heap.size := by have := hb1.size; simpa using this
      have hown1 : OwnP w1 w.heap.size u5 (ofB (l.take k) H) := hown.below hbr (Nat.le_refl _)
      obtain ⟨hcc1, hff1⟩ := bcell hb1
      have q0 : w1.cell? ⟨wr.heap.size, 0, none⟩ = some (.int .i64 l[k].1) := by rw [hcc1 _ _ (by simp)]; simp
      have q1 : w1.cell? ⟨wr.heap.size, 1, none⟩ = some (.int .i64 l[k].2.1) := by rw [hcc1 _ _ (by simp)]; simp
      have q2 : w1.cell? ⟨wr.heap.size, 2, none⟩ = some (.int .i64 l[k].2.2) := by rw [hcc1 _ _ (by simp)]; simp
      have hle : (ofB (l.take k) H).length ≤ 1000000 := by
        have h1 : (ofB (l.take k) H).length ≤ (l.take k).length := List.length_filter_le _ _
        have h2 := List.length_take_le k l
        omega
      clear hcc1 hff1 hcc hff hown d0 d1 d2 c0 hb1
      by_cases hs : l[k].1 = H
      · have hd : decide (l[k].1 = H) = true := by simpa using hs
        have HE : Hid (ofB (l.take (k + 1)) H = ofB (l.take k) H ++ [l[k]]) := by show _ = _; rw [take_snoc hlt]; exact ofB_yes _ _ _ hs
        rw [hd]
        clear hs hd
        go_wp2_with (at_builtin; refine wpList_append_part _ rfl _ _ rfl w.heap.size _ _ rfl (hown1.below (below1 w1 _) (Nat.le_refl _)) w1.heap.size l[k] rfl (by exact heap_alloc_new w1 _) hle (by have := hB1.size; simp; omega) ?_; intro g cap' w2 hown2 hgrow hat hlt2)
        have hB2 : Below w.heap.size w w2 := (hB1.trans ((below1 w1 _).mono hB1.size)).grown hgrow (by have := hB1.size; simp; omega) (fun j hj => by
          rcases hown1.2 with ⟨hv, _⟩ | ⟨g', cap'', cur, hv, hg', _⟩
          · rw [hv] at hj; cases hj
          · rw [hv] at hj; cases hj; exact hg')
        clear hown1 hgrow hat q0 q1 q2 hbr
        go_wp2
        go_roundw
        case rel =>
          refine ⟨k + 1, by omega, by go_num, ?_, hB2⟩
          rw [HE.out]
          exact hown2
        case measure => simp [intOf]; omega
      · have hd : decide (l[k].1 = H) = false := by simpa using hs
        have HE : Hid (ofB (l.take (k + 1)) H = ofB (l.take k) H) := by show _ = _; rw [take_snoc hlt]; exact ofB_no _ _ _ hs
        rw [hd]
        clear hs hd
        go_wp2
        go_roundw
        case rel =>
          refine ⟨k + 1, by omega, by go_num, ?_, hB1⟩
          rw [HE.out]
          exact hown1
        case measure => simp [intOf]; omega
    · have HE : Hid (l.take k = l) := by show _ = _; rw [List.take_of_length_le (by omega)]
      clear hp
      go_wp2
      go_ret
      exact ⟨_, rfl, by rw [HE.out] at hown; exact hown, hbw⟩

set_option maxHeartbeats 400000 in
theorem of_any (H : Int) (a : Option Addr) (l : List P3) (cap n : Nat) (w : World) (hn : n = l.length) (hl : l.length ≤ 4) (hp : PartsAt w a l) :
    Calls Try.prog 14 #[.slice a n cap, .int .i64 H] w fun e w' => ∃ v, e = .returned v ∧ OwnP w' w.heap.size v (ofB l H) ∧ Below w.heap.size w w' := by
  subst hn
  have HC := keep_any H w.heap.size a l cap l.length (w.alloc (.cells #[.int .i64 H] 3)) rfl hl (hp.below (below1 w _)) (by simp) (by simp)
  clear hp
  go_enter Try.func14, Try.ntmps14
  go_wp2_with fail
  refine HC.mono ?_
  rintro e w1 ⟨v, rfl, hown, hb1⟩
  clear HC
  go_wp2
  go_ret
  refine ⟨_, rfl, ?_, (below1 w _).trans (hb1.mono (by simp))⟩
  refine ⟨hown.1, ?_⟩
  rcases hown.2 with h0 | ⟨g, cap, cur, hv, hg, r⟩
  · exact Or.inl h0
  · exact Or.inr ⟨g, cap, cur, hv, by simp at hg; omega, r⟩

end Go.Proofs.Ytebiaegnppkdnaa
