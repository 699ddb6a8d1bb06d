/- Slices that a call has made: nothing older than a bound is written by an append onto one. -/
import Derived.Test.YtikmnaegalmfeaaKLists
namespace Go.Proofs.Ytikmnaegalmfeaa
open Go.RowKit

section
variable {α : Type}
/-- The value v holds the entries xs: it owns them in blocks from B on, or it is an empty slice without room, wherever it was made. -/
def FreshL (e : TypeId) (size : Nat) (enc : α → List Value) (w : World) (B : Nat) (v : Value) (xs : List α) : Prop :=
  OwnL e size enc w B v xs ∨ (xs = [] ∧ ∃ g, v = .slice (some ⟨g, 0, none⟩) 0 0 ∧ Blk w g #[] e)
variable {e : TypeId} {size : Nat} {enc : α → List Value} {w w' : World} {B : Nat} {v : Value} {xs : List α}
theorem FreshL.made {g : Nat} (h : Blk w g #[] e) (B : Nat) : FreshL e size enc w B (.slice (some ⟨g, 0, none⟩) 0 0) [] := Or.inr ⟨rfl, g, rfl, h⟩
theorem FreshL.own (h : OwnL e size enc w B v xs) : FreshL e size enc w B v xs := Or.inl h
theorem FreshL.below (h : FreshL e size enc w B v xs) (hb : Below w.heap.size w w') : FreshL e size enc w' B v xs := by
  rcases h with h | ⟨h0, g, hv, hg⟩
  · exact Or.inl (h.below hb (Nat.le_refl _))
  · exact Or.inr ⟨h0, g, hv, hg.below hb hg.lt⟩
theorem FreshL.at {a : Option Addr} {n cap : Nat} (he : ∀ x, (enc x).length = size) (h : FreshL e size enc w B (.slice a n cap) xs) : RowAt size enc w a xs ∧ n = xs.length ∧ xs.length ≤ cap ∧ cap ≤ maxLen := by
  rcases h with h | ⟨h0, g, hv, hg⟩
  · obtain ⟨a', cap', hv, hrow, h1, h2⟩ := h.row he
    cases hv
    exact ⟨hrow, rfl, h1, h2⟩
  · cases hv
    subst h0
    exact ⟨Or.inl rfl, rfl, Nat.le_refl _, Nat.zero_le _⟩
theorem FreshL.slice (he : ∀ x, (enc x).length = size) (h : FreshL e size enc w B v xs) : ∃ a n cap, v = .slice a n cap := by
  rcases h with h | ⟨h0, g, hv, hg⟩
  · obtain ⟨a, cap, hv, _⟩ := h.row he
    exact ⟨a, _, cap, hv⟩
  · exact ⟨_, _, _, hv⟩

theorem run_append_fresh {bytes : Nat} {t : TypeId} {z : Value} (he : ∀ x, (enc x).length = size) (h1 : ∀ x, ∀ u ∈ enc x, u.oneCell' = true) (ht : Try.prog.underlying t = some (.slice e))
    (hinfo : (Try.prog.info? e).map (fun i => (i.zero, i.size, i.bytes)) = some (some z, size, bytes)) (hzs : z.cells.size = size) (h0 : 0 < size) (ty : TypeId)
    (hown : FreshL e size enc w B v xs) (ad : Option Addr) (m c : Nat) (ys : List α) (hm : m = ys.length) (hsrc : RowAt size enc w ad ys)
    (hml : xs.length + ys.length ≤ maxLen) (hl : (xs.length + ys.length) * bytes ≤ 140737488355328) (hB : B ≤ w.heap.size) :
    ∃ a' n' c' w', (Builtin.append_ #[t, t] ty #[v, .slice ad m c]).run Try.prog w = .ok (.slice a' n' c') w' ∧ FreshL e size enc w' B (.slice a' n' c') (xs ++ ys) ∧ n' = xs.length + ys.length ∧ Below B w w' := by
  subst hm
  obtain ⟨i0, hi, hz0, hz1, hz2⟩ := info_parts hinfo
  rcases hown with hown | ⟨rfl, g, rfl, hg⟩
  · obtain ⟨v', w', hr, g1, g2, _⟩ := run_append_any (P := Try.prog) w B t ty e i0 _ size bytes ht hi hz0 hz1 hz2 hzs h0 v xs.length (flat enc xs) hown ad ys.length c (flat enc ys) (hsrc.src he h0) (flat_one h1 ys) hml hl hB
    have hO : OwnL e size enc w' B v' (xs ++ ys) := by
      unfold OwnL
      rw [flat_append, List.length_append]
      exact g1
    obtain ⟨a', c', hv, _⟩ := hO.row he
    rw [List.length_append] at hv
    subst hv
    refine ⟨a', _, c', w', hr, Or.inl hO, rfl, (Below.refl B w).grown g2 hB (fun k hk => (World.ownsRow.lt hown k hk).1)⟩
  · simp only [List.length_nil, Nat.zero_add, List.nil_append] at hml hl ⊢
    rcases hsrc with rfl | ⟨b, o, rfl, hlt, hc⟩
    · have hroom := fun (x : Value) (hs : Src Try.prog i0.size t x 0 [] w) => run_append_room_src (P := Try.prog) w t t ty e i0 ht hi g 0 0 0 x 0 [] hs (by omega) (fun j hj => by simp at hj) (fun j hj => by simp at hj)
      have hr : (Builtin.append_ #[t, t] ty #[.slice (some ⟨g, 0, none⟩) 0 0, .slice ad 0 c]).run Try.prog w = .ok (.slice (some ⟨g, 0, none⟩) 0 0) w := by
        cases ad with
        | none => exact hroom _ (Src.ofNil w ht c)
        | some a0 => exact hroom _ (Src.ofSlice w ht a0 0 c [] (by simp) (fun j u hj => by simp at hj) (fun u hu => by cases hu))
      exact ⟨_, _, _, w, hr, Or.inr ⟨rfl, g, rfl, hg⟩, rfl, Below.refl _ _⟩
    · by_cases hy : ys = []
      · subst hy
        have hroom := run_append_room_src (P := Try.prog) w t t ty e i0 ht hi g 0 0 0 _ 0 [] (Src.ofSlice w ht ⟨b, o, none⟩ 0 c [] (by simp) (fun j u hj => by simp at hj) (fun u hu => by cases hu)) (by omega) (fun j hj => by simp at hj) (fun j hj => by simp at hj)
        exact ⟨_, _, _, w, hroom, Or.inr ⟨rfl, g, rfl, hg⟩, rfl, Below.refl _ _⟩
      · have hpos : 0 < ys.length := List.length_pos_iff.2 hy
        have hs : RowAt size enc w (some ⟨b, o, none⟩) ys := Or.inr ⟨b, o, rfl, hlt, hc⟩
        have hS := hs.src he h0
        obtain ⟨hS1, hS2⟩ := hS
        have hS3 : ∀ j u, (flat enc ys)[j]? = some u → w.cell? ((⟨b, o, none⟩ : Addr).add j) = some u := by
          rcases hS2 with h | ⟨a0, ha, h⟩
          · omega
          · cases ha; exact h
        have hmade : w.ownsRow 0 e size (.slice (some ⟨g, 0, none⟩) 0 0) 0 [] := ⟨by simp, Or.inr ⟨g, 0, #[], rfl, Nat.zero_le _, hg, Nat.le_refl _, Nat.zero_le _, by simp, by simp⟩⟩
        obtain ⟨v', w', hr, g1, g2, _, g3⟩ := run_append_own_at (P := Try.prog) w 0 t ty e i0 _ size bytes ht hi hz0 hz1 hz2 hzs h0 _ 0 [] hmade ⟨b, o, none⟩ ys.length c (flat enc ys) hS1 hS3 (flat_one h1 ys) (by omega) (by rw [Nat.zero_add]; exact hl) (Nat.zero_le _)
        have hr2 := run_append_grow (P := Try.prog) w t ty e i0 _ ht hi hz0 ⟨g, 0, none⟩ 0 0 [] (by simp) (fun j u hj => by simp at hj) ⟨b, o, none⟩ ys.length c (flat enc ys) (by rw [hz1]; exact hS1) hS3 (by omega) (by unfold maxLen at hml; omega) (by rw [Nat.zero_add, nextslicecap_zero hpos, hz2]; omega)
        rw [hr2] at hr
        injection hr with hv hw
        subst hv
        rw [← hw] at g1
        have hO : OwnL e size enc (w.drew.alloc (.cells (([] : List Value).toArray ++ (flat enc ys).toArray ++ Builtin.zeroCells z.cells (grownCap w (0 + ys.length) 0 e - (0 + ys.length))) e)) B (.slice (some ⟨w.heap.size, 0, none⟩) (0 + ys.length) (grownCap w (0 + ys.length) 0 e)) ys := by
          rw [List.nil_append] at g1
          obtain ⟨q1, q2⟩ := g1
          rw [Nat.zero_add] at q1 q2 ⊢
          refine ⟨q1, ?_⟩
          rcases q2 with ⟨q3, _⟩ | ⟨g', cap', cur, q3, _, q5⟩
          · cases q3
          · cases q3
            exact Or.inr ⟨_, _, cur, rfl, hB, q5⟩
        refine ⟨_, _, _, _, hr2, Or.inl hO, by omega, ?_⟩
        exact ((Below.refl B w).drew).alloc (by simpa using hB) _

/-- .. within a statement that draws its order, at an operation that is wanted. -/
theorem step_append_fresh {bytes : Nat} {t : TypeId} {z : Value} (he : ∀ x, (enc x).length = size) (h1 : ∀ x, ∀ u ∈ enc x, u.oneCell' = true) (ht : Try.prog.underlying t = some (.slice e))
    (hinfo : (Try.prog.info? e).map (fun i => (i.zero, i.size, i.bytes)) = some (some z, size, bytes)) (hzs : z.cells.size = size) (h0 : 0 < size)
    {ops : Array Oper} {o : Oper} {a : Act} {K : Act → World → Prop} {Q : Exit → Act → World → Prop} {E : Prop} (w : World) (hw : Region.wanted o (yielded ops a.tmps) = true) (s x : Operand)
    (ho : o.op = .call { callee := .builtin .append, args := #[s, x], argTypes := #[t, t] })
    (B : Nat) (v : Value) (xs : List α) (hs : a.eval s = v) (hown : FreshL e size enc w B v xs) (ad : Option Addr) (m c : Nat) (ys : List α) (hx : a.eval x = .slice ad m c) (hm : m = ys.length) (hsrc : RowAt size enc w ad ys)
    (hml : xs.length + ys.length ≤ maxLen) (hl : (xs.length + ys.length) * bytes ≤ 140737488355328) (hB : B ≤ w.heap.size)
    (h : ∀ a' n' c' w', FreshL e size enc w' B (.slice a' n' c') (xs ++ ys) → n' = xs.length + ys.length → Below B w w' → K (a.put o.dst (.slice a' n' c')) w') : if Region.wanted o (yielded ops a.tmps) = true then Oper.wp Try.prog o a w K Q else E := by
  rw [if_pos hw]
  obtain ⟨a', n', c', w', hr, g1, g2, g3⟩ := run_append_fresh (w := w) he h1 ht hinfo hzs h0 o.type hown ad m c ys hm hsrc hml hl hB
  unfold Oper.wp execOp
  simp only [ho, resolve, invoke, builtin, Sem.run_bind, Sem.run_pure, Result.andThen_ok, List.map_toArray, List.map_cons, List.map_nil, hs, hx, hr]
  exact h a' n' c' w' g1 g2 g3
end

end Go.Proofs.Ytikmnaegalmfeaa
