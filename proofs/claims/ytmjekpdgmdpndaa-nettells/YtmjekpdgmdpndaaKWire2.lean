/- Slices of bytes that a call owns, and what wire.Number does: it puts a number's bytes behind. -/
import Derived.Test.YtmjekpdgmdpndaaKWire1
import Derived.Maps.Range
namespace Go.Proofs.Ytmjekpdgmdpndaa
open Go.RowKit
attribute [local go_sem ↓] Go.wp_at_zero Go.wp_at_succ

def cells1 (l : List Nat) : List Value := l.map fun c : Nat => Value.int .u8 (c : Int)
/-- The value v owns the bytes l, in blocks from base on. -/
def OwnB (w : World) (base : Nat) (v : Value) (l : List Nat) : Prop := w.ownsRow base 5 1 v l.length (cells1 l)
theorem OwnB.below {w w' : World} {base : Nat} {v : Value} {l : List Nat} (h : OwnB w base v l) {B : Nat} (hb : Below B w w') (hB : w.heap.size ≤ B) : OwnB w' base v l := ownsRow_below h hb hB
theorem OwnB.block {w : World} {base : Nat} {v : Value} {l : List Nat} (h : OwnB w base v l) {j : Nat} (hj : v.ownBlock = some j) : base ≤ j := by
  rcases h.2 with ⟨hv, _⟩ | ⟨g, cap, cur, hv, hg, _⟩
  · rw [hv] at hj; cases hj
  · rw [hv] at hj; cases hj; exact hg
theorem OwnB.base {w : World} {base base' : Nat} {v : Value} {l : List Nat} (h : OwnB w base v l) (hb : base' ≤ base) : OwnB w base' v l := by
  refine ⟨h.1, ?_⟩
  rcases h.2 with h0 | ⟨g, cap, cur, hv, hg, r⟩
  · exact Or.inl h0
  · exact Or.inr ⟨g, cap, cur, hv, by omega, r⟩
theorem OwnB.nil (w : World) (base : Nat) : OwnB w base (.slice none 0 0) [] := World.ownsRow_nil _ _ _ _

/-- What is owned lies in memory. -/
theorem OwnB.bytes {w : World} {base : Nat} {v : Value} {l : List Nat} (h : OwnB w base v l) : ∃ a cap, v = .slice a l.length cap ∧ BytesAt w a l ∧ l.length ≤ cap := by
  rcases h.2 with ⟨hv, h0⟩ | ⟨g, cap, cur, hv, hg, hh, hcap, _, hsz, htake⟩
  · exact ⟨none, 0, by rw [hv, h0], Or.inl (List.eq_nil_of_length_eq_zero h0), by omega⟩
  · refine ⟨_, cap, hv, Or.inr ⟨g, 0, rfl, ?_, fun i hi => ?_⟩, hcap⟩
    · rcases Nat.lt_or_ge g w.heap.size with h' | h'
      · exact h'
      · rw [Array.getElem?_eq_none h'] at hh; cases hh
    · have hj : (cells1 l)[i]? = some (.int .u8 (l[i] : Nat)) := by simp [cells1, hi]
      rw [cell_of_row w g _ cur _ _ hh]
      rw [← htake, List.getElem?_take_of_lt (by omega)] at hj
      simpa using hj

/-- From w to w' only what v owned has turned, and v' owns that, or something new. -/
def Grew (w w' : World) (v v' : Value) : Prop := w.grownBy w' v.ownBlock ∧ (v'.ownBlock = v.ownBlock ∨ ∃ g, v'.ownBlock = some g ∧ w.heap.size ≤ g)
theorem Grew.refl (w : World) (v : Value) : Grew w w v v := ⟨⟨rfl, rfl, rfl, Nat.le_refl _, fun _ _ _ => rfl⟩, Or.inl rfl⟩
theorem Grew.trans {w w1 w2 : World} {v v1 v2 : Value} (h : Grew w w1 v v1) (k : Grew w1 w2 v1 v2) : Grew w w2 v v2 := by
  refine ⟨h.1.andThen k.1 ?_, ?_⟩
  · intro j hj
    rcases h.2 with e | ⟨g, e, hg⟩
    · exact Or.inr (e ▸ hj)
    · rw [e] at hj; cases hj; exact Or.inl hg
  · rcases k.2 with e | ⟨g, e, hg⟩
    · rw [e]; exact h.2
    · exact Or.inr ⟨g, e, Nat.le_trans h.1.size hg⟩
theorem Grew.alloc (w : World) (o : Obj) (v : Value) : Grew w (w.alloc o) v v := ⟨World.grownBy_alloc w o _, Or.inl rfl⟩
theorem Grew.below {w w' : World} {v v' : Value} {base : Nat} {l : List Nat} (h : Grew w w' v v') (ho : OwnB w base v l) {B : Nat} (hB : B ≤ base) (hs : B ≤ w.heap.size) : Below B w w' :=
  (Below.refl B w).grown h.1 hs fun _ hj => Nat.le_trans hB (ho.block hj)

theorem infoU8 : (Try.prog.info? 5).map (fun i => (i.zero, i.size, i.bytes)) = some (some (.int .u8 0), 1, 1) := by kernel_rfl

/-- 'append(v, cs ..)' where v is owned and cs lie in a block of their own. -/
theorem wpList_append_bytes {ops : Array Oper} {rest : List Oper} {o : Oper} {a : Act} {Q : Exit → Act → World → Prop} (w : World) (hgd : o.guard = none) (s x : Operand)
    (ho : o.op = .call { callee := .builtin .append, args := #[s, x], argTypes := #[57, 57] })
    (base : Nat) (v : Value) (l : List Nat) (hs : a.eval s = v) (hown : OwnB w base v l) (B m : Nat) (cs : List Nat) (hm : m = cs.length) (h0 : 0 < cs.length) (hx : a.eval x = .slice (some ⟨B, 0, none⟩) m m)
    (hB : w.heap[B]? = some (.cells (cells1 cs).toArray 5)) (hl : l.length + cs.length ≤ 1000000000) (hbase : base ≤ w.heap.size)
    (h : ∀ g cap w', OwnB w' base (.slice (some ⟨g, 0, none⟩) (l.length + m) cap) (l ++ cs) → Grew w w' v (.slice (some ⟨g, 0, none⟩) (l.length + m) cap) → wpList Try.prog ops Q rest (a.put o.dst (.slice (some ⟨g, 0, none⟩) (l.length + m) cap)) w') : wpList Try.prog ops Q (o :: rest) a w := by
  subst hm
  obtain ⟨i0, hi, hz0, hz1, hz2⟩ := info_parts infoU8
  refine wpList_append_lies w hgd s x 57 ho base 5 i0 _ 1 1 Try.underlying57 hi hz0 hz1 hz2 rfl (by decide) v l.length (cells1 l) hs hown ⟨B, 0, none⟩ cs.length cs.length (cells1 cs) hx (by simp [cells1]) (World.news_of_block hB) ?_ h0 (by unfold maxLen; omega) (by omega) hbase w.heap.size rfl ?_
  · intro u hu
    simp only [cells1, List.mem_map] at hu
    obtain ⟨c, _, rfl⟩ := hu
    rfl
  · intro g cap w' h1 h2 h3 h4
    refine h g cap w' ?_ ⟨h2, ?_⟩
    · unfold OwnB
      simpa [cells1] using h1
    · rcases h3 with e | e
      · exact Or.inl e.symm
      · exact Or.inr ⟨g, rfl, by omega⟩

set_option maxRecDepth 20000 in
set_option maxHeartbeats 1000000 in
theorem number_any (n : Int) (v : Value) (l : List Nat) (base : Nat) (w : World) (h1 : -9223372036854775808 ≤ n) (h2 : n ≤ 9223372036854775807) (hl : l.length ≤ 100000000) (hown : OwnB w base v l) (hbase : base ≤ w.heap.size) :
    Calls Try.prog 69 #[v, .int .i64 n] w fun e w' => ∃ v', e = .returned v' ∧ OwnB w' base v' (l ++ numB n) ∧ Grew w w' v v' := by
  have HF := fold_any n w h1 h2
  have h64 := fold_lt64 h1 h2
  have HN : Hid (numB n = numGo 9 (foldN n)) := rfl
  generalize foldN n = u at *
  generalize numB n = t at *
  go_enter Try.func69, Try.ntmps69
  go_wp2_with fail
  refine HF.mono ?_
  rintro e w1 ⟨rfl, rfl⟩
  clear HF h1 h2
  go_wp2
  go_loopw [0, 5] (fun v' u' w' => ∃ (f x : Nat) (pre : List Nat), u' = .int .u64 x ∧ x ≤ 18446744073709551615 ∧ Hid (x < 128 ^ f * 128) ∧ Hid (t = pre ++ numGo f x) ∧ pre.length + f = 9 ∧ OwnB w' base v' (l ++ pre) ∧ Grew w1 w' v v') (fun _ u _ => (intOf u).toNat)
  case atStart => exact ⟨9, u, [], rfl, by omega, by show _ < _; omega, HN.out, rfl, by simpa using hown, Grew.refl _ _⟩
  case round =>
    obtain ⟨f, x, pre, rfl, hx, hxf, HT, hpl, ho, hg⟩ := hrel
    have hbr : base ≤ wr.heap.size := Nat.le_trans hbase hg.1.size
    have hlen : (l ++ pre).length ≤ 200000000 := by simp; omega
    by_cases hlt : 128 ≤ x
    · obtain ⟨f', rfl⟩ : ∃ f', f = f' + 1 := by
        cases f with
        | zero => have := hxf.out; omega
        | succ f' => exact ⟨f', rfl⟩
      have HT' : Hid (t = (pre ++ [x % 128 + 128]) ++ numGo f' (x / 128)) := by show _ = _; rw [HT.out, numGo_more _ (by omega)]; simp
      have HX' : Hid (x / 128 < 128 ^ f' * 128) := by have := hxf.out; show _ < _; rw [Nat.pow_succ] at this; omega
      clear HT hxf
      obtain ⟨lp, HLP⟩ : ∃ lp, Hid (lp = l ++ pre) := ⟨_, rfl⟩
      rw [← HLP.out] at ho hlen
      go_wp2_with (at_builtin; refine wpList_append_bytes _ rfl _ _ rfl base _ _ rfl (ho.below (below1 wr _) (Nat.le_refl _)) wr.heap.size 1 [x % 128 + 128] rfl (by simp) rfl (by exact heap_alloc_new wr _) (by simp; omega) (by simp; omega) ?_; intro g cap' w2 hown2 hgrow)
      go_roundw
      case rel =>
        refine ⟨f', x / 128, pre ++ [x % 128 + 128], by go_num, by omega, HX', HT', by simp; omega, ?_, hg.trans ((Grew.alloc wr _ _).trans hgrow)⟩
        rw [← List.append_assoc, ← HLP.out]
        exact hown2
      case measure => simp [intOf]; omega
    · have HT' : Hid (t = pre ++ [x]) := by show _ = _; rw [HT.out, numGo_small _ (by omega)]
      clear HT hxf
      obtain ⟨lp, HLP⟩ : ∃ lp, Hid (lp = l ++ pre) := ⟨_, rfl⟩
      rw [← HLP.out] at ho hlen
      go_wp2_with (at_builtin; refine wpList_append_bytes _ rfl _ _ rfl base _ _ rfl (ho.below (below1 wr _) (Nat.le_refl _)) wr.heap.size 1 [x] rfl (by simp) rfl (by exact heap_alloc_new wr _) (by simp; omega) (by simp; omega) ?_; intro g cap' w2 hown2 hgrow)
      go_ret
      refine ⟨_, rfl, ?_, hg.trans ((Grew.alloc wr _ _).trans hgrow)⟩
      rw [HT'.out, ← List.append_assoc, ← HLP.out]
      exact hown2

end Go.Proofs.Ytmjekpdgmdpndaa
