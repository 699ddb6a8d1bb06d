/- What text.Parse does. -/
import Derived.Test.YtkmohigbedocgaaDoorText2
import Derived.Test.YtkmohigbedocgaaDoorText3
import Derived.Test.YtkmohigbedocgaaDoorPart2
import Derived.Maps.OwnIn
namespace Go.Proofs.YtkmohigbedocgaaDoor
open Go.RowKit Go.Shelf

attribute [local go_sem] Oper.semAt_some

def parseV (v : Value) (e : Int) : Value := .tuple #[v, .int .i64 e]

/-- Between two words: what was read lies in a list of the call's own. -/
def PInv (w : World) (pre : List (List UInt8)) (W : World) : Prop :=
  ∃ (ps : List P3) (v : Value), readAll pre = some ps ∧ Blk W w.heap.size #[.slice none 0 0] 22 ∧ Blk W (w.heap.size + 1) #[.int .i64 0] 23 ∧ Blk W (w.heap.size + 2) #[v] 22 ∧ OwnP W (w.heap.size + 6) v (ps.take 5) ∧
    (∃ r, Blk W (w.heap.size + 3) #[.string r] 9) ∧ Blk W (w.heap.size + 4) #[.string ⟨#[32]⟩] 9 ∧ Blk W (w.heap.size + 5) #[.int .i64 0] 3 ∧ Below w.heap.size w W
/-- A word was not so written. -/
def PStop (w : World) (s : ByteArray) (_ : Unit) (W : World) : Prop :=
  readAll (splitB s.data.toList) = none ∧ Blk W w.heap.size #[.slice none 0 0] 22 ∧ Blk W (w.heap.size + 1) #[.int .i64 2] 23 ∧ Below w.heap.size w W

theorem Blk.grownBy {w w' : World} {b : Nat} {cs : Array Value} {t : TypeId} {row : Option Nat} (h : Blk w b cs t) (hg : w.grownBy w' row) (hr : some b ≠ row) : Blk w' b cs t := by
  unfold Blk; rw [hg.block b h.lt hr]; exact h
theorem OwnP.grownBy {w w' : World} {base : Nat} {v : Value} {l : List P3} {row : Option Nat} (h : OwnP w base v l) (hg : w.grownBy w' row) (hr : ∀ g, v.ownBlock = some g → some g ≠ row) : OwnP w' base v l := by
  refine ⟨h.1, ?_⟩
  rcases h.2 with h0 | ⟨g, cap, cur, hv, hb, hh, r⟩
  · exact Or.inl h0
  · refine Or.inr ⟨g, cap, cur, hv, hb, ?_, r⟩
    rw [hg.block g (Array.getElem?_eq_some_iff.1 hh).1 (hr g (by rw [hv]; rfl))]
    exact hh
theorem OwnP.isCells {w : World} {base : Nat} {v : Value} {l : List P3} (h : OwnP w base v l) {g : Nat} (hg : v.ownBlock = some g) : ∃ cur, w.heap[g]? = some (.cells cur 34) := by
  rcases h.2 with ⟨rfl, _⟩ | ⟨g', cap, cur, rfl, hb, hh, r⟩
  · cases hg
  · simp [Value.ownBlock] at hg
    subst hg
    exact ⟨cur, hh⟩

/-- 'append(v, p)' in a loop's round, where v is owned and p lies in a block of its own. -/
theorem wpListIn_append_part {F : Fence} {nF : Nat} {ops : Array Oper} {rest : List Oper} {o : Oper} {a : Act} {Q : Exit → Act → World → Prop} (w : World) (hgd : o.guard = none) (s x : Operand)
    (ho : o.op = .call { callee := .builtin .append, args := #[s, x], argTypes := #[22, 22] })
    (base : Nat) (v : Value) (l : List P3) (hs : a.eval s = v) (hown : OwnP w base v l) (B : Nat) (p : P3) (hx : a.eval x = .slice (some ⟨B, 0, none⟩) 1 1)
    (hB : w.heap[B]? = some (.cells #[.int .i64 p.1, .int .i64 p.2.1, .int .i64 p.2.2] 34)) (hl : l.length ≤ 1000000) (hbase : base ≤ w.heap.size)
    (h : ∀ g cap w', OwnP w' base (.slice (some ⟨g, 0, none⟩) (l.length + 1) cap) (l ++ [p]) → w.grownBy w' v.ownBlock → wpListIn F nF Tryd.prog ops Q rest (a.put o.dst (.slice (some ⟨g, 0, none⟩) (l.length + 1) cap)) w') :
    wpListIn F nF Tryd.prog ops Q (o :: rest) a w := by
  obtain ⟨i0, hi, hz0, hz1, hz2⟩ := info_parts infoPart
  refine wpListIn_append_own w hgd s x 22 ho base 34 i0 _ 3 24 Tryd.underlying22 hi hz0 hz1 hz2 rfl (by decide) v l.length (cells3 l) hs hown ⟨B, 0, none⟩ 1 1 [.int .i64 p.1, .int .i64 p.2.1, .int .i64 p.2.2] hx rfl (World.news_of_block hB) ?_ (by unfold maxLen; omega) (by omega) hbase ?_
  · intro u hu
    simp at hu
    rcases hu with rfl | rfl | rfl <;> rfl
  · intro v' w' h1 h2 _
    have h3 : OwnP w' base v' (l ++ [p]) := by
      unfold OwnP
      rw [cells3_snoc]
      simpa using h1
    rcases h3.2 with ⟨_, h0⟩ | ⟨g, cap, cur, hv, _⟩
    · simp at h0
    · have e : v' = .slice (some ⟨g, 0, none⟩) (l.length + 1) cap := by rw [hv]; simp
      subst e
      exact h g cap w' h3 h2

theorem keepsFrom_below {B : Nat} {W W' : World} (h : Below W.heap.size W W') : KeepsFrom B W W' := ⟨h.size, fun k _ _ hk _ => (h.block k (Array.getElem?_eq_some_iff.1 hk).1).trans hk⟩
theorem take5_snoc {ps : List P3} {p : P3} (h : ps.length ≤ 4) : (ps ++ [p]).take 5 = ps.take 5 ++ [p] := by
  rw [List.take_of_length_le (by simp; omega), List.take_of_length_le (by omega)]
theorem take5_full {ps : List P3} {p : P3} (h : ¬ ps.length ≤ 4) : (ps ++ [p]).take 5 = ps.take 5 := by
  rw [List.take_append_of_le_length (by omega)]

/-- Both abide what the loop itself does to memory. -/
theorem Blk.ownFrom {w w' : World} {b : Nat} {cs : Array Value} {t : TypeId} {row : Option Nat} (h : Blk w b cs t) (hg : w.grownBy w' row) (hr : ∀ r, row = some r → ∃ o : Obj, w.heap[r]? = some o ∧ o.isCells = false) : Blk w' b cs t := by
  refine h.grownBy hg fun e => ?_
  obtain ⟨o, ho, hc⟩ := hr b e.symm
  unfold Blk at h
  rw [h] at ho
  cases ho
  cases hc
theorem OwnP.ownFrom {w w' : World} {base : Nat} {v : Value} {l : List P3} {row : Option Nat} (h : OwnP w base v l) (hg : w.grownBy w' row) (hr : ∀ r, row = some r → ∃ o : Obj, w.heap[r]? = some o ∧ o.isCells = false) : OwnP w' base v l := by
  refine h.grownBy hg fun g e e' => ?_
  obtain ⟨o, ho, hc⟩ := hr g e'.symm
  obtain ⟨cur, hh⟩ := h.isCells e
  rw [hh] at ho
  cases ho
  cases hc
theorem blk_put {X : World} {b D : Nat} {cs : Array Value} {t : TypeId} (h : Blk X b cs t) (o : Obj) (hne : b ≠ D) : Blk (X.putObj D o) b cs t := by
  unfold Blk; rw [World.putObj_heap_other hne]; exact h
theorem below_put {N D : Nat} {w X : World} (h : Below N w X) (hN : N ≤ w.heap.size) (o : Obj) (hD : N ≤ D) : Below N w (X.putObj D o) :=
  h.grown (grownBy_putObj' X D o) (Nat.le_trans hN h.size) (fun k e => by cases e; exact hD)
theorem OwnP.less {w : World} {b c : Nat} {v : Value} {l : List P3} (h : OwnP w b v l) (hc : c ≤ b) : OwnP w c v l := by
  refine ⟨h.1, ?_⟩
  rcases h.2 with h0 | ⟨g, cap, cur, hv, hb, r⟩
  · exact Or.inl h0
  · exact Or.inr ⟨g, cap, cur, hv, Nat.le_trans hc hb, r⟩
theorem pinv_own (w : World) (B : Nat) (hB : w.heap.size ≤ B) : OwnFrom B (PInv w) := by
  rintro pre W W' row ⟨ps, v, h1, h2, h3, h4, h5, ⟨r, h6⟩, h7, h8, h9⟩ hg hr
  have hr2 : ∀ r, row = some r → ∃ o : Obj, W.heap[r]? = some o ∧ o.isCells = false := fun r e => (hr r e).2
  exact ⟨ps, v, h1, h2.ownFrom hg hr2, h3.ownFrom hg hr2, h4.ownFrom hg hr2, h5.ownFrom hg hr2, ⟨r, h6.ownFrom hg hr2⟩, h7.ownFrom hg hr2, h8.ownFrom hg hr2, h9.grown hg h9.size (fun k e => by have := (hr k e).1; omega)⟩
theorem pstop_own (w : World) (s : ByteArray) (B : Nat) (hB : w.heap.size ≤ B) : OwnFrom B (PStop w s) := by
  rintro pre W W' row ⟨h1, h2, h3, h9⟩ hg hr
  have hr2 : ∀ r, row = some r → ∃ o : Obj, W.heap[r]? = some o ∧ o.isCells = false := fun r e => (hr r e).2
  exact ⟨h1, h2.ownFrom hg hr2, h3.ownFrom hg hr2, h9.grown hg h9.size (fun k e => by have := (hr k e).1; omega)⟩
theorem pinv_set (w : World) (pre : List (List UInt8)) (W : World) (x : ByteArray) (h : PInv w pre W) : PInv w pre (W.setCell ⟨w.heap.size + 3, 0, none⟩ (.string x)) := by
  obtain ⟨ps, u, h1, h2, h3, h4, h5, ⟨r, h6⟩, h7, h8, h9⟩ := h
  refine ⟨ps, u, h1, h2.setOther (a := ⟨w.heap.size + 3, 0, none⟩) (by simp) _, h3.setOther (a := ⟨w.heap.size + 3, 0, none⟩) (by simp) _, h4.setOther (a := ⟨w.heap.size + 3, 0, none⟩) (by simp) _, ?_, ⟨x, by simpa using h6.set 0 (.string x)⟩, h7.setOther (a := ⟨w.heap.size + 3, 0, none⟩) (by simp) _, h8.setOther (a := ⟨w.heap.size + 3, 0, none⟩) (by simp) _, h9.setCell (p := ⟨w.heap.size + 3, 0, none⟩) (by simp) _⟩
  exact h5.grownBy (grownBy_setCell' W _ _) (fun g e e' => by
    have := (ownsRow_lt h5 e).1
    cases e'
    omega)

set_option maxRecDepth 20000 in
set_option maxHeartbeats 2000000 in
theorem parse_any (s : ByteArray) (w : World) (hl : s.size ≤ 281474976710656) (htab : Tab w) (herr : Errs w) :
    Calls Tryd.prog 4 #[.string s] w fun e w' => ∃ v, e = .returned (parseV v (parseB s.data.toList).1) ∧ OwnP w' w.heap.size v (parseB s.data.toList).2 ∧ Below w.heap.size w w' := by
  refine (callsIn_wide (n := 3)).1 (callsIn_of_wp_marks Tryd.func4 rfl trivial ?_ rfl)
  simp only [Tryd.ntmps4, List.size_toArray, List.length_cons, List.length_nil, Nat.reduceAdd, Nat.reduceSub, Array.replicate_succ, Array.replicate_zero, List.push_toArray, List.append_toArray, List.nil_append, List.cons_append]
  gi_wp2_with fail
  refine ⟨trivial, ?_⟩
  refine (callsIn_wide.2 (SplitSeq_any s ⟨#[32]⟩ _)).mono ?_
  rintro e w1 ⟨rfl, rfl⟩
  gi_wp2
  have B0 := (((((Blk.new w #[.slice none 0 0] 22).alloc (.cells #[.int .i64 0] 23)).alloc (.cells #[.slice none 0 0] 22)).alloc (.cells #[.string s] 9)).alloc (.cells #[.string ⟨#[32]⟩] 9)).alloc (.cells #[.int .i64 0] 3)
  have B1 := ((((Blk.new (w.alloc (.cells #[.slice none 0 0] 22)) #[.int .i64 0] 23).alloc (.cells #[.slice none 0 0] 22)).alloc (.cells #[.string s] 9)).alloc (.cells #[.string ⟨#[32]⟩] 9)).alloc (.cells #[.int .i64 0] 3)
  have B2 := (((Blk.new ((w.alloc (.cells #[.slice none 0 0] 22)).alloc (.cells #[.int .i64 0] 23)) #[.slice none 0 0] 22).alloc (.cells #[.string s] 9)).alloc (.cells #[.string ⟨#[32]⟩] 9)).alloc (.cells #[.int .i64 0] 3)
  have B3 := ((Blk.new (((w.alloc (.cells #[.slice none 0 0] 22)).alloc (.cells #[.int .i64 0] 23)).alloc (.cells #[.slice none 0 0] 22)) #[.string s] 9).alloc (.cells #[.string ⟨#[32]⟩] 9)).alloc (.cells #[.int .i64 0] 3)
  have B4 := (Blk.new ((((w.alloc (.cells #[.slice none 0 0] 22)).alloc (.cells #[.int .i64 0] 23)).alloc (.cells #[.slice none 0 0] 22)).alloc (.cells #[.string s] 9)) #[.string ⟨#[32]⟩] 9).alloc (.cells #[.int .i64 0] 3)
  have B5 := Blk.new (((((w.alloc (.cells #[.slice none 0 0] 22)).alloc (.cells #[.int .i64 0] 23)).alloc (.cells #[.slice none 0 0] 22)).alloc (.cells #[.string s] 9)).alloc (.cells #[.string ⟨#[32]⟩] 9)) #[.int .i64 0] 3
  have HB : Below w.heap.size w ((((((w.alloc (.cells #[.slice none 0 0] 22)).alloc (.cells #[.int .i64 0] 23)).alloc (.cells #[.slice none 0 0] 22)).alloc (.cells #[.string s] 9)).alloc (.cells #[.string ⟨#[32]⟩] 9)).alloc (.cells #[.int .i64 0] 3)) :=
    ((((((Below.refl _ w).alloc (Nat.le_refl _) _).alloc (by simp) _).alloc (by simp; omega) _).alloc (by simp; omega) _).alloc (by simp; omega) _).alloc (by simp; omega) _
  have HS : ((((((w.alloc (.cells #[.slice none 0 0] 22)).alloc (.cells #[.int .i64 0] 23)).alloc (.cells #[.slice none 0 0] 22)).alloc (.cells #[.string s] 9)).alloc (.cells #[.string ⟨#[32]⟩] 9)).alloc (.cells #[.int .i64 0] 3)).heap.size = w.heap.size + 6 := by simp
  generalize ((((((w.alloc (.cells #[.slice none 0 0] 22)).alloc (.cells #[.int .i64 0] 23)).alloc (.cells #[.slice none 0 0] 22)).alloc (.cells #[.string s] 9)).alloc (.cells #[.string ⟨#[32]⟩] 9)).alloc (.cells #[.int .i64 0] 3)) = V at *
  simp only [World.size_alloc, Nat.add_assoc, Nat.reduceAdd] at B0 B1 B2 B3 B4 B5
  simp only [Nat.add_assoc, Nat.reduceAdd]
  refine wpIn_range_split (w.heap.size + 4) (w.heap.size + 3) (w.heap.size + 5) s rfl rfl (by omega) (PInv w) (PStop w s) (pinv_own w _ (by omega)) (pstop_own w s _ (by omega))
    (fun pre W h => ?facts) (pinv_set w) ⟨[], .slice none 0 0, rfl, B0, B1, B2, World.ownsRow_nil _ _ _ _, ⟨s, B3⟩, B4, B5, HB⟩ (by simpa using B3.cell 0) (by omega)
    (fun x => { tmps := #[.string s, undef, .pointer (some ⟨w.heap.size, 0, none⟩), .pointer (some ⟨w.heap.size + 1, 0, none⟩), .pointer (some ⟨w.heap.size + 2, 0, none⟩), .string x, undef, undef, undef, .string s,
      .func (.func 30) #[] #[.pointer (some ⟨w.heap.size + 4, 0, none⟩), .pointer (some ⟨w.heap.size + 3, 0, none⟩), .pointer (some ⟨w.heap.size + 5, 0, none⟩)], .string x, undef, undef, undef, undef, undef, undef, undef, undef, undef, undef, undef, undef, undef, undef, undef, undef, undef, undef, undef, undef], defers := [] }) ?assign ?body ?done ?stop
  case facts =>
    obtain ⟨ps, u, h1, h2, h3, h4, h5, ⟨r, h6⟩, h7, h8, h9⟩ := h
    exact ⟨by simpa using h7.cell 0, by simpa using h8.cell 0, h6.free 0⟩
  case assign =>
    intro l x W K hK
    gi_wp2
    exact hK
  case body =>
    clear B0 B1 B2 B3 B4 B5 HB
    rintro l pre x W ⟨ps, u, h1, h2, h3, h4, h5, ⟨r, h6⟩, h7, h8, h9⟩ hx ⟨t, ht⟩
    rw [HS]
    gi_wp2_with fail
    refine ⟨trivial, (CallsIn.inRound l (callsIn_wide.2 (read_any x W (by omega) (htab.on h9) (herr.on h9)))).mono ?_⟩
    rintro e W1 ⟨rfl, hb1⟩
    have hk1 : KeepsFrom (w.heap.size + 6) W W1 := keepsFrom_below hb1
    have hc1 : W1.cell? ⟨w.heap.size + 3, 0, none⟩ = W.cell? ⟨w.heap.size + 3, 0, none⟩ := hb1.cell (p := ⟨w.heap.size + 3, 0, none⟩) h6.lt
    have g9 : Below w.heap.size w W1 := h9.trans (hb1.mono h9.size)
    have g2 := h2.below hb1 h2.lt
    have g3 := h3.below hb1 h3.lt
    have g4 := h4.below hb1 h4.lt
    have g5 := h5.below hb1 (Nat.le_refl _)
    have g6 := h6.below hb1 h6.lt
    have g7 := h7.below hb1 h7.lt
    have g8 := h8.below hb1 h8.lt
    have hN : w.heap.size + 6 ≤ W1.heap.size := by have := g8.lt; omega
    have HK : Hid (KeepsFrom (w.heap.size + 6) W W1 ∧ W1.cell? ⟨w.heap.size + 3, 0, none⟩ = W.cell? ⟨w.heap.size + 3, 0, none⟩) := ⟨hk1, hc1⟩
    have HP : Hid (readAll pre = some ps) := h1
    clear h1 h2 h3 h4 h5 h6 h7 h8 h9 hb1 hc1 hk1
    cases hr : readB x.data.toList with
    | none =>
      have HN : Hid (readAll (splitB s.data.toList) = none) := by
        show _ = _
        rw [ht]; exact readAll_none hr t pre
      have k2 := g2.alloc (.cells #[.int .i64 0, .int .i64 0, .int .i64 0] 34)
      have k3 := g3.alloc (.cells #[.int .i64 0, .int .i64 0, .int .i64 0] 34)
      have c2 : _ = some _ := k2.cell 0
      have c3 : _ = some _ := k3.cell 0
      have f2 := k2.free 0
      have f3 := k3.free 0
      simp only [readV]
      gi_wp2
      refine ⟨((HK.out.1.trans ((KeepsOthers.alloc _ _).from _)).trans ((KeepsOthers.setCell _ _ _).from _)).trans ((KeepsOthers.setCell _ _ _).from _), HN.out, ?_, ?_, ?_⟩
      · exact (by simpa using k2.set 0 (.slice none 0 0) : Blk _ _ #[.slice none 0 0] _).setOther (a := ⟨w.heap.size + 1, 0, none⟩) (by simp) _
      · simpa using (k3.setOther (a := ⟨w.heap.size, 0, none⟩) (by simp) (.slice none 0 0)).set 0 (.int .i64 2)
      · exact ((g9.alloc g9.size _).setCell (p := ⟨w.heap.size, 0, none⟩) (by simp) _).setCell (p := ⟨w.heap.size + 1, 0, none⟩) (by simp) _
    | some p =>
      have HS : Hid (readAll (pre ++ [x.data.toList]) = some (ps ++ [p])) := by
        show _ = _
        rw [readAll_snoc, HP.out, hr]
      obtain ⟨h, y, m⟩ := p
      have hc := take5_snoc (p := (h, y, m)) (ps := ps)
      have hf := take5_full (p := (h, y, m)) (ps := ps)
      have hq1 : ps.length ≤ 4 → (ps.take 5).length ≤ 4 := fun h => by rw [List.length_take]; omega
      have hq2 : ¬ ps.length ≤ 4 → ¬ (ps.take 5).length ≤ 4 := fun h => by rw [List.length_take]; omega
      obtain ⟨a, cap, rfl, hpt, hcap⟩ := g5.parts
      generalize ps.take 5 = qs at *
      have k2 := g2.alloc (.cells #[.int .i64 h, .int .i64 y, .int .i64 m] 34)
      have k3 := g3.alloc (.cells #[.int .i64 h, .int .i64 y, .int .i64 m] 34)
      have k4 := g4.alloc (.cells #[.int .i64 h, .int .i64 y, .int .i64 m] 34)
      have k5 := g5.below (below1 W1 (.cells #[.int .i64 h, .int .i64 y, .int .i64 m] 34)) (Nat.le_refl _)
      have k6 := g6.alloc (.cells #[.int .i64 h, .int .i64 y, .int .i64 m] 34)
      have k7 := g7.alloc (.cells #[.int .i64 h, .int .i64 y, .int .i64 m] 34)
      have k8 := g8.alloc (.cells #[.int .i64 h, .int .i64 y, .int .i64 m] 34)
      have k9 := g9.alloc g9.size (.cells #[.int .i64 h, .int .i64 y, .int .i64 m] 34)
      have kn := Blk.new W1 #[.int .i64 h, .int .i64 y, .int .i64 m] 34
      have HK2 : Hid (KeepsFrom (w.heap.size + 6) W (W1.alloc (.cells #[.int .i64 h, .int .i64 y, .int .i64 m] 34))) := HK.out.1.trans ((KeepsOthers.alloc _ _).from _)
      have hN2 : w.heap.size + 6 ≤ (W1.alloc (.cells #[.int .i64 h, .int .i64 y, .int .i64 m] 34)).heap.size := by simp; omega
      have hc6 : (W1.alloc (.cells #[.int .i64 h, .int .i64 y, .int .i64 m] 34)).cell? ⟨w.heap.size + 3, 0, none⟩ = W.cell? ⟨w.heap.size + 3, 0, none⟩ := by
        rw [← HK.out.2]; exact (k6.cell 0).trans (g6.cell 0).symm
      clear g2 g3 g4 g5 g6 g7 g8 hpt HK
      have c4 : _ = some _ := k4.cell 0
      have f4 := k4.free 0
      have n0 : _ = some _ := kn.cell 0
      have n1 : _ = some _ := kn.cell 1
      have n2 : _ = some _ := kn.cell 2
      simp only [readV]
      by_cases h4 : ps.length ≤ 4
      · have hq4 : (qs.length : Int) ≤ 4 := by have := hq1 h4; omega
        have HC : Hid ((ps ++ [(h, y, m)]).take 5 = qs ++ [(h, y, m)]) := hc h4
        clear hc hf hq1 hq2
        have k5b := k5.below (below1 (W1.alloc (.cells #[.int .i64 h, .int .i64 y, .int .i64 m] 34)) (.cells #[.int .i64 h, .int .i64 y, .int .i64 m] 34)) (Nat.le_refl _)
        have kB : ((W1.alloc (.cells #[.int .i64 h, .int .i64 y, .int .i64 m] 34)).alloc (.cells #[.int .i64 h, .int .i64 y, .int .i64 m] 34)).heap[W1.heap.size + 1]? = some (.cells #[.int .i64 h, .int .i64 y, .int .i64 m] 34) := by
          have := Blk.new (W1.alloc (.cells #[.int .i64 h, .int .i64 y, .int .i64 m] 34)) #[.int .i64 h, .int .i64 y, .int .i64 m] 34
          rw [World.size_alloc] at this
          exact this
        have KB := Any.hidJ kB
        have K5 := Any.hidJ k5b
        clear k5b kB
        gi_wp2_with (gi_at_builtin; refine wpListIn_append_part _ rfl (.tmp 22) (.tmp 24) rfl (w.heap.size + 6) (.slice a qs.length cap) qs rfl K5.out (W1.heap.size + 1) (h, y, m) rfl KB.out (by omega) (by simp only [World.size_alloc]; omega) ?_; intro g3 c3 w3 ho3 hg3; have hne : ∀ b, b < w.heap.size + 6 → some b ≠ (Value.slice a qs.length cap).ownBlock := (fun b hb e => by have := (ownsRow_lt k5 e.symm).1; omega); have kk4 := (k4.alloc (.cells #[.int .i64 h, .int .i64 y, .int .i64 m] 34)).grownBy hg3 (hne _ (by omega)); have d4 : _ = some _ := kk4.cell 0; have e4 := kk4.free 0)
        have m2 := (k2.alloc (.cells #[.int .i64 h, .int .i64 y, .int .i64 m] 34)).grownBy hg3 (hne _ (by omega))
        have m3 := (k3.alloc (.cells #[.int .i64 h, .int .i64 y, .int .i64 m] 34)).grownBy hg3 (hne _ (by omega))
        have m6 := (k6.alloc (.cells #[.int .i64 h, .int .i64 y, .int .i64 m] 34)).grownBy hg3 (hne _ (by omega))
        have m7 := (k7.alloc (.cells #[.int .i64 h, .int .i64 y, .int .i64 m] 34)).grownBy hg3 (hne _ (by omega))
        have m8 := (k8.alloc (.cells #[.int .i64 h, .int .i64 y, .int .i64 m] 34)).grownBy hg3 (hne _ (by omega))
        have hkc : KeepsFrom (w.heap.size + 6) ((W1.alloc (.cells #[.int .i64 h, .int .i64 y, .int .i64 m] 34)).alloc (.cells #[.int .i64 h, .int .i64 y, .int .i64 m] 34)) w3 := by
          refine ⟨hg3.size, fun k o _ hk ho => (hg3.block k (Array.getElem?_eq_some_iff.1 hk).1 (fun e => ?_)).trans hk⟩
          obtain ⟨cur, hh⟩ := K5.out.isCells e.symm
          rw [hh] at hk
          cases hk
          cases ho
        have m9 : Below w.heap.size w w3 := (k9.alloc (by simp; omega) (.cells #[.int .i64 h, .int .i64 y, .int .i64 m] 34)).grown hg3 (by simp; omega) (fun k e => by have := (ownsRow_lt k5 e).1; omega)
        refine ⟨((HK2.out.trans ((KeepsOthers.alloc _ _).from _)).trans hkc).trans ((KeepsOthers.setCell _ _ _).from _), ?_, ps ++ [(h, y, m)], .slice (some ⟨g3, 0, none⟩) (qs.length + 1) c3, HS.out, m2.setOther (a := ⟨w.heap.size + 2, 0, none⟩) (by simp) _, m3.setOther (a := ⟨w.heap.size + 2, 0, none⟩) (by simp) _, ?_, ?_, ⟨r, m6.setOther (a := ⟨w.heap.size + 2, 0, none⟩) (by simp) _⟩, m7.setOther (a := ⟨w.heap.size + 2, 0, none⟩) (by simp) _, m8.setOther (a := ⟨w.heap.size + 2, 0, none⟩) (by simp) _, m9.setCell (p := ⟨w.heap.size + 2, 0, none⟩) (by simp) _⟩
        · rw [← hc6]
          exact ((m6.setOther (a := ⟨w.heap.size + 2, 0, none⟩) (by simp) _).cell 0).trans (k6.cell 0).symm
        · simpa using kk4.set 0 (.slice (some ⟨g3, 0, none⟩) (qs.length + 1) c3)
        · rw [HC.out]
          exact ho3.grownBy (grownBy_setCell' w3 _ _) (fun g e e' => by
            have := (ownsRow_lt ho3 e).1
            cases e'
            omega)
      · have hq4 : ¬ (qs.length : Int) ≤ 4 := by have := hq2 h4; omega
        have HC : Hid ((ps ++ [(h, y, m)]).take 5 = qs) := hf h4
        clear hc hf hq1 hq2
        gi_wp2
        exact ⟨HK2.out, hc6, ps ++ [(h, y, m)], _, HS.out, k2, k3, k4, by rw [HC.out]; exact k5, ⟨r, k6⟩, k7, k8, k9⟩
  case done =>
    clear B0 B1 B2 B3 B4 B5 HB
    rintro D W hD ⟨ps, u, h1, h2, h3, h4, h5, ⟨r, h6⟩, h7, h8, h9⟩ hK
    have HR : Hid (readAll (splitB s.data.toList) = some ps) := h1
    have HPB : Hid (parseB s.data.toList = if wrong (ps.take 5) 3 = 0 then (0, ps.take 5) else (wrong (ps.take 5) 3, [])) := by
      show _ = _
      unfold parseB
      rw [HR.out]
    have hq5 : (ps.take 5).length ≤ 9223372036854775807 := by rw [List.length_take]; omega
    generalize ps.take 5 = qs at *
    obtain ⟨a, cap, rfl, hpt, hcap⟩ := h5.parts
    have c4 : _ = some _ := h4.cell 0
    have hsz := h9.size
    clear h1 h6 h7 h8
    gi_wp2_with fail
    refine ⟨trivial, (callsIn_wide.2 (wrong_any a qs cap 3 W hq5 hpt hcap)).mono ?_⟩
    rintro e W1 ⟨rfl, hb1⟩
    have g9 : Below w.heap.size w W1 := h9.trans (hb1.mono h9.size)
    have g2 := h2.below hb1 h2.lt
    have g3 := h3.below hb1 h3.lt
    have g4 := h4.below hb1 h4.lt
    have g5 := h5.below hb1 (Nat.le_refl _)
    have gK : W1.heap[D]? = some (.deferred (some [])) := (hb1.block D (Array.getElem?_eq_some_iff.1 hK).1).trans hK
    clear h2 h3 h4 h5 h9 hK hpt c4 hb1
    have c2 : _ = some _ := g2.cell 0
    have c3 : _ = some _ := g3.cell 0
    have c4 : _ = some _ := g4.cell 0
    have f2 := g2.free 0
    have f3 := g3.free 0
    by_cases hw : wrong qs 3 = 0
    · rw [hw]
      rw [if_pos hw] at HPB
      gi_wp2
      have x2 : Blk ((W1.setCell ⟨w.heap.size, 0, none⟩ (.slice a qs.length cap)).setCell ⟨w.heap.size + 1, 0, none⟩ (.int .i64 0)) w.heap.size #[.slice a qs.length cap] 22 :=
        (by simpa using g2.set 0 (.slice a qs.length cap) : Blk _ _ #[.slice a qs.length cap] _).setOther (a := ⟨w.heap.size + 1, 0, none⟩) (by simp) _
      have x3 : Blk ((W1.setCell ⟨w.heap.size, 0, none⟩ (.slice a qs.length cap)).setCell ⟨w.heap.size + 1, 0, none⟩ (.int .i64 0)) (w.heap.size + 1) #[.int .i64 0] 23 := by
        simpa using (g3.setOther (a := ⟨w.heap.size, 0, none⟩) (by simp) (.slice a qs.length cap)).set 0 (.int .i64 0)
      have x9 := (g9.setCell (p := ⟨w.heap.size, 0, none⟩) (by simp) (.slice a qs.length cap)).setCell (p := ⟨w.heap.size + 1, 0, none⟩) (by simp) (.int .i64 0)
      have x5 := (g5.grownBy (grownBy_setCell' W1 w.heap.size (.slice a qs.length cap)) (fun g e e' => by have := (ownsRow_lt g5 e).1; cases e'; omega))
      have x6 := (x5.grownBy (grownBy_setCell' _ (w.heap.size + 1) (.int .i64 0)) (fun g e e' => by have := (ownsRow_lt x5 e).1; cases e'; omega))
      have hXD : ((W1.setCell ⟨w.heap.size, 0, none⟩ (.slice a qs.length cap)).setCell ⟨w.heap.size + 1, 0, none⟩ (.int .i64 0)).heap[D]? = some (.deferred (some [])) := by
        rw [heap_setCell_other _ ⟨w.heap.size + 1, 0, none⟩ D _ (show D ≠ w.heap.size + 1 by omega), heap_setCell_other _ ⟨w.heap.size, 0, none⟩ D _ (show D ≠ w.heap.size by omega)]; exact gK
      generalize ((W1.setCell ⟨w.heap.size, 0, none⟩ (.slice a qs.length cap)).setCell ⟨w.heap.size + 1, 0, none⟩ (.int .i64 0)) = X at *
      refine ⟨by simp, .inl ⟨_, _, rfl, run_takeDeferred hXD, ?_⟩⟩
      have z2 := blk_put x2 (.deferred none) (D := D) (by omega)
      have z3 := blk_put x3 (.deferred none) (D := D) (by omega)
      have z9 := below_put x9 (Nat.le_refl _) (.deferred none) (D := D) (by omega)
      have zo : OwnP (X.putObj D (.deferred none)) w.heap.size (.slice a qs.length cap) qs := (x6.ownFrom (grownBy_putObj' X D _) (fun r e => by cases e; exact ⟨_, hXD, rfl⟩)).less (by omega)
      generalize X.putObj D (.deferred none) = Z at *
      have p0 : _ = some _ := z2.cell 0
      have p1 : _ = some _ := z3.cell 0
      refine ⟨parseV (.slice a qs.length cap) 0, ?_, (.slice a qs.length cap), by rw [HPB.out], by rw [HPB.out]; exact zo, z9⟩
      simp [results, Tryd.results4, go_sem, p0, p1, parseV]
    · rw [if_neg hw] at HPB
      generalize wrong qs 3 = e at *
      have hd : (e != 0) = true := by simpa using hw
      gi_wp2
      have x2 : Blk ((W1.setCell ⟨w.heap.size, 0, none⟩ (.slice none 0 0)).setCell ⟨w.heap.size + 1, 0, none⟩ (.int .i64 e)) w.heap.size #[.slice none 0 0] 22 :=
        (by simpa using g2.set 0 (.slice none 0 0) : Blk _ _ #[.slice none 0 0] _).setOther (a := ⟨w.heap.size + 1, 0, none⟩) (by simp) _
      have x3 : Blk ((W1.setCell ⟨w.heap.size, 0, none⟩ (.slice none 0 0)).setCell ⟨w.heap.size + 1, 0, none⟩ (.int .i64 e)) (w.heap.size + 1) #[.int .i64 e] 23 := by
        simpa using (g3.setOther (a := ⟨w.heap.size, 0, none⟩) (by simp) (.slice none 0 0)).set 0 (.int .i64 e)
      have x9 := (g9.setCell (p := ⟨w.heap.size, 0, none⟩) (by simp) (.slice none 0 0)).setCell (p := ⟨w.heap.size + 1, 0, none⟩) (by simp) (.int .i64 e)
      have hXD : ((W1.setCell ⟨w.heap.size, 0, none⟩ (.slice none 0 0)).setCell ⟨w.heap.size + 1, 0, none⟩ (.int .i64 e)).heap[D]? = some (.deferred (some [])) := by
        rw [heap_setCell_other _ ⟨w.heap.size + 1, 0, none⟩ D _ (show D ≠ w.heap.size + 1 by omega), heap_setCell_other _ ⟨w.heap.size, 0, none⟩ D _ (show D ≠ w.heap.size by omega)]; exact gK
      generalize ((W1.setCell ⟨w.heap.size, 0, none⟩ (.slice none 0 0)).setCell ⟨w.heap.size + 1, 0, none⟩ (.int .i64 e)) = X at *
      refine ⟨by simp, .inl ⟨_, _, rfl, run_takeDeferred hXD, ?_⟩⟩
      have z2 := blk_put x2 (.deferred none) (D := D) (by omega)
      have z3 := blk_put x3 (.deferred none) (D := D) (by omega)
      have z9 := below_put x9 (Nat.le_refl _) (.deferred none) (D := D) (by omega)
      have zo : OwnP (X.putObj D (.deferred none)) w.heap.size (.slice none 0 0) [] := World.ownsRow_nil _ _ _ _
      generalize X.putObj D (.deferred none) = Z at *
      have p0 : _ = some _ := z2.cell 0
      have p1 : _ = some _ := z3.cell 0
      refine ⟨parseV (.slice none 0 0) e, ?_, (.slice none 0 0), by rw [HPB.out], by rw [HPB.out]; exact zo, z9⟩
      simp [results, Tryd.results4, go_sem, p0, p1, parseV]
  case stop =>
    clear B0 B1 B2 B3 B4 B5 HB
    rintro D W hD ⟨h1, h2, h3, h9⟩ hK
    have HPB : Hid (parseB s.data.toList = (2, [])) := by
      show _ = _
      unfold parseB
      rw [h1]
    gi_wp2
    refine ⟨by simp, .inl ⟨_, _, rfl, run_takeDeferred hK, ?_⟩⟩
    have z2 := blk_put h2 (.deferred none) (D := D) (by omega)
    have z3 := blk_put h3 (.deferred none) (D := D) (by omega)
    have z9 := below_put h9 (Nat.le_refl _) (.deferred none) (D := D) (by omega)
    have zo : OwnP (W.putObj D (.deferred none)) w.heap.size (.slice none 0 0) [] := World.ownsRow_nil _ _ _ _
    generalize W.putObj D (.deferred none) = Z at *
    have p0 : _ = some _ := z2.cell 0
    have p1 : _ = some _ := z3.cell 0
    refine ⟨parseV (.slice none 0 0) 2, ?_, (.slice none 0 0), by rw [HPB.out], by rw [HPB.out]; exact zo, z9⟩
    simp [results, Tryd.results4, go_sem, p0, p1, parseV]

end Go.Proofs.YtkmohigbedocgaaDoor
