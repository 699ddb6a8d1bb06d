/- What log.Own does: a copy of a log that shares nothing with it. -/
import Derived.Test.YtikmnaegalmfeaaKLog1
import Derived.Deep.DeepCutAuto
namespace Go.Proofs.Ytikmnaegalmfeaa
open Go.RowKit
attribute [local go_sem ↓] Go.wp_at_zero Go.wp_at_succ

theorem OwnL.setNew {α : Type} {e : TypeId} {size : Nat} {enc : α → List Value} {w : World} {base : Nat} {v : Value} {xs : List α} (h : OwnL e size enc w base v xs) {a : Addr} (ha : v.ownBlock ≠ some a.block) (u : Value) : OwnL e size enc (w.setCell a u) base v xs := ownsRow_setCell_other h ha u
theorem OwnL.other {α : Type} {e : TypeId} {size : Nat} {enc : α → List Value} {w : World} {base : Nat} {v : Value} {xs : List α} (h : OwnL e size enc w base v xs) {g : Nat} (hg : w.heap.size ≤ g) : v.ownBlock ≠ some g := fun hv => by
  have := (World.ownsRow.lt h g hv).2
  omega
theorem OwnL.base {α : Type} {e : TypeId} {size : Nat} {enc : α → List Value} {w : World} {base : Nat} {v : Value} {xs : List α} (h : OwnL e size enc w base v xs) : ∀ k, v.ownBlock = some k → base ≤ k := fun k hk => (World.ownsRow.lt h k hk).1
theorem map_take_succ {α β : Type} {X : List α} {k : Nat} (h : k < X.length) (f : α → β) : (X.take (k + 1)).map f = (X.take k).map f ++ [f X[k]] := by rw [take_snoc h, List.map_append]; rfl
theorem okL_get {X : List XL} (h : OkL (X.map stripL)) {k : Nat} (hk : k < X.length) : OkP X[k].2.2.2 := h (stripL X[k]) (List.mem_map.2 ⟨_, List.getElem_mem hk, rfl⟩)

/-- A log that is owned: it, and its parts, lie in blocks of their own kinds. -/
def RecsO (w : World) (base : Nat) (v : Value) (Y : List XL) : Prop := OwnL 67 3 encL w base v Y ∧ ∀ y ∈ Y, PartsT base w y.2.2.1.1 y.2.2.2
theorem RecsO.at {w : World} {base : Nat} {a : Option Addr} {n c : Nat} {Y : List XL} (h : RecsO w base (.slice a n c) Y) : RecsAt w a Y := by
  obtain ⟨a', c', hv, hrow, _⟩ := h.1.row lenL
  cases hv
  exact ⟨hrow, fun y hy => (h.2 y hy).at⟩
theorem RecsO.below {w w' : World} {base : Nat} {v : Value} {Y : List XL} (h : RecsO w base v Y) (hb : Below w.heap.size w w') : RecsO w' base v Y := ⟨h.1.below hb (Nat.le_refl _), fun y hy => (h.2 y hy).calm (Calm.below hb (Nat.le_refl _))⟩

theorem RecsO.mono {w : World} {base base' : Nat} {v : Value} {Y : List XL} (h : RecsO w base v Y) (hb : base' ≤ base) : RecsO w base' v Y := ⟨h.1.mono hb, fun y hy => (h.2 y hy).mono hb⟩

set_option maxHeartbeats 1000000 in
theorem own_gen (a : Option Addr) (X : List XL) (cap n : Nat) (w : World) (hn : n = X.length) (hl : X.length ≤ 3518437208883) (hok : OkL (X.map stripL)) (hp : RecsAt w a X) :
    Calls Try.prog 63 #[.slice a n cap] w fun e w' => ∃ a' c' Y, e = .returned (.slice a' n c') ∧ Y.map stripL = X.map stripL ∧ RecsO w' w.heap.size (.slice a' n c') Y ∧ Below w.heap.size w w' := by
  have HN : Hid (n = X.length ∧ OkL (X.map stripL) ∧ RecsAt w a X) := ⟨hn, hok, hp⟩
  have hnl : n ≤ 3518437208883 := by omega
  clear hn hok hp
  go_enter Try.func63, Try.ntmps63
  go_wp2
  go_loopw [3, 8] (fun v i w' => ∃ (k : Nat) (Y : List XL), k ≤ n ∧ i = .int .i64 k ∧ Hid (Y.map stripL = (X.take k).map stripL) ∧ OwnL 67 3 encL w' w.heap.size v Y ∧ Hid (∀ y ∈ Y, PartsT w.heap.size w' y.2.2.1.1 y.2.2.2) ∧ Below w.heap.size w w') (fun _ i _ => n - (intOf i).toNat)
  case atStart => exact ⟨0, [], Nat.zero_le _, rfl, rfl, OwnL.nil _ _, (fun y hy => by cases hy), Below.refl _ _⟩
  case round =>
    obtain ⟨k, Y, hk, rfl, hY, hown, hT, hbw⟩ := hrel
    have hsz := hbw.size
    have hYl : Y.length = k := by
      have := congrArg List.length hY.out
      have h2 := HN.out.1
      simp at this
      omega
    by_cases hlt : k < n
    · have hkX : k < X.length := by have := HN.out.1; omega
      obtain ⟨b, o, rfl, hb, c0, c1, c2, hq⟩ := (HN.out.2.2.below hbw).get hkX
      have hokk := okL_get HN.out.2.1 hkX
      have HE : Hid ((X.take (k + 1)).map stripL = (X.take k).map stripL ++ [stripL X[k]]) := map_take_succ hkX _
      obtain ⟨av, nv, cv, rfl⟩ : ∃ a n c, u3 = .slice a n c := by
        obtain ⟨a, c, hv, _⟩ := hown.row lenL
        exact ⟨a, _, c, hv⟩
      generalize X[k] = x at *
      obtain ⟨kd, dd, ⟨ax, cx⟩, l⟩ := x
      simp only at c0 c1 c2 hq hokk
      have HQ : Hid (PartsAt wr ax l ∧ l.length ≤ 1000 ∧ OwnL 67 3 encL wr w.heap.size (.slice av nv cv) Y) := ⟨hq, by have := hokk.1; omega, hown⟩
      clear hq hokk hown
      generalize hll : l.length = nl at *
      go_wp2_with fail
      refine (cloneP_any ax l cx nl _ hll.symm (by have := HQ.out.2.1; omega) (HQ.out.1.below (below1 wr _))).mono ?_
      rintro e w1 ⟨a1, c1', rfl, ht1, hb1⟩
      have hbr : Below wr.heap.size wr w1 := (below1 wr _).trans (hb1.mono (by simp))
      have hr1 : Blk w1 wr.heap.size #[.int .i64 kd, .int .i64 dd, .slice ax nl cx] 67 := (Blk.new wr _ _).below hb1 (by simp)
      have hr2 := hr1.set 2 (.slice a1 nl c1')
      have hne := HQ.out.2.2.other (Nat.le_refl wr.heap.size)
      have ho2 : OwnL 67 3 encL (w1.setCell ⟨wr.heap.size, 2, none⟩ (.slice a1 nl c1')) w.heap.size (.slice av nv cv) Y := (HQ.out.2.2.below hbr (Nat.le_refl _)).setNew (a := ⟨wr.heap.size, 2, none⟩) hne _
      have hcalm : Calm 45 w1 (w1.setCell ⟨wr.heap.size, 2, none⟩ (.slice a1 nl c1')) := Calm.setCell (a := ⟨wr.heap.size, 2, none⟩) hr1 (by decide) _
      have hT2 : Hid (∀ y ∈ Y ++ [(kd, dd, (a1, c1'), l)], PartsT w.heap.size (w1.setCell ⟨wr.heap.size, 2, none⟩ (.slice a1 nl c1')) y.2.2.1.1 y.2.2.2) := fun y hy => by
        rcases List.mem_append.1 hy with hy | hy
        · exact ((hT.out y hy).calm (Calm.below hbr (Nat.le_refl _))).calm hcalm
        · rw [List.mem_singleton.1 hy]; exact (ht1.mono (by simp; omega)).calm hcalm
      have hB2 : Below w.heap.size w (w1.setCell ⟨wr.heap.size, 2, none⟩ (.slice a1 nl c1')) := (hbw.trans (hbr.mono hsz)).setCell (by simpa using hsz) _
      have f2 := hr1.free 2
      have g2 := hr1.cell 2
      simp at g2
      have HB : Hid (Blk (w1.setCell ⟨wr.heap.size, 2, none⟩ (.slice a1 nl c1')) wr.heap.size #[.int .i64 kd, .int .i64 dd, .slice a1 nl c1'] 67) := hr2
      clear ht1 hb1 hbr hr1 hcalm c0 c1 c2 hr2 hT
      have HO : Hid (OwnL 67 3 encL (w1.setCell ⟨wr.heap.size, 2, none⟩ (.slice a1 nl c1')) w.heap.size (.slice av nv cv) Y) := ho2
      clear ho2
      go_upto_region 6 with fail
      generalize w1.setCell ⟨wr.heap.size, 2, none⟩ (.slice a1 nl c1') = w2 at *
      have e0 := HB.out.cell 0
      have e1 := HB.out.cell 1
      have e2 := HB.out.cell 2
      simp at e0 e1 e2
      clear f2 g2
      have hlY : Y.length + 1 ≤ 3518437208883 := by omega
      have HL : Hid (l.length = nl) := hll
      clear hll
      go_wp2_with (at_builtin; refine wpList_append_listB lenL oneL Try.underlying22 infoRec rfl (by decide) _ rfl _ _ rfl w.heap.size _ Y rfl (HO.out.below (below1 w2 _) (Nat.le_refl _)) (some ⟨w2.heap.size, 0, none⟩) 1 1 [(kd, dd, (a1, c1'), l)] rfl rfl (RowAt.one (Blk.new w2 _ _) (by simp [encL, HL.out])) (by unfold maxLen; simp; omega) (by simp; omega) (by have := hB2.size; simp; omega) ?_; intro a' n' c' w3 hown3 hn3 hgrow3 hat3; clear hn3)
      have hB3 : Below w.heap.size w w3 := (hB2.alloc hB2.size _).grown hgrow3 (by have := hB2.size; simp; omega) HO.out.base
      have hC3 : Calm 45 w2 w3 := (Calm.alloc _ _ _).trans (Calm.grown hgrow3 ((HO.out.below (below1 w2 _) (Nat.le_refl _)).grownT (by decide)))
      have HF : Hid ((Y ++ [(kd, dd, (a1, c1'), l)]).map stripL = (X.take (k + 1)).map stripL) := by
        show _ = _
        rw [HE.out, List.map_append, hY.out]
        rfl
      have HT3 : Hid (∀ y ∈ Y ++ [(kd, dd, (a1, c1'), l)], PartsT w.heap.size w3 y.2.2.1.1 y.2.2.2) := fun y hy => (hT2.out y hy).calm hC3
      clear hC3 hgrow3 hat3 hT2 HO HB e0 e1 e2
      go_wp2
      go_roundw
      case rel => exact ⟨k + 1, _, by omega, by go_num, HF, hown3, HT3, hB3⟩
      case measure => simp [intOf]; omega
    · have hkn : k = n := by omega
      obtain ⟨av, cv, rfl, hrow, _⟩ := hown.row lenL
      have HF : Hid (Y.map stripL = X.map stripL ∧ Y.length = n ∧ OwnL 67 3 encL wr w.heap.size (.slice av Y.length cv) Y) := ⟨by rw [hY.out, List.take_of_length_le (by have := HN.out.1; omega)], by omega, hown⟩
      clear hown hY hrow
      generalize Y.length = ny at *
      go_wp2
      go_ret
      have e := HF.out.2.1
      subst e
      exact ⟨av, cv, Y, rfl, HF.out.1, ⟨HF.out.2.2, hT.out⟩, hbw⟩

end Go.Proofs.Ytikmnaegalmfeaa
