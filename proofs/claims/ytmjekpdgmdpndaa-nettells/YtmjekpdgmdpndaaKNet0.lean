/- What a copy of a net is: slices.Clone of bytes, net.Own, hasPlace, hasRoom. -/
import Derived.Test.YtmjekpdgmdpndaaKRefS
import Derived.Lib.SliceRun
namespace Go.Proofs.Ytmjekpdgmdpndaa
open Go.RowKit
attribute [local go_sem ↓] Go.wp_at_zero Go.wp_at_succ

set_option maxHeartbeats 1000000 in
theorem cloneB_any (a : Option Addr) (l : List Nat) (cap n : Nat) (w : World) (hn : n = l.length) (hl : l.length ≤ 140737488355328) (hp : BytesAt w a l) :
    Calls Try.prog 41 #[.slice a n cap] w fun e w' => ∃ a' c', e = .returned (.slice a' n c') ∧ BytesT w.heap.size w' a' l ∧ (l.length ≤ c' ∧ c' ≤ maxLen) ∧ Below w.heap.size w w' := by
  have q : ∀ (w : World) (a : Option Addr) (n c n' c' : Nat), (binOp .eql 57 (.slice a n c) (.slice none n' c')).run Try.prog w = .ok (.bool a.isNone) w := fun w a n c n' c' => Lib.run_eql_slice_nil w _ _ a n c n' c' Try.underlying57
  cases a with
  | none =>
    have h0 : l = [] := by
      rcases hp with h | ⟨b, o, h, _⟩
      · exact h
      · cases h
    subst h0
    subst hn
    clear hp
    go_enter Try.func41, Try.ntmps41
    go_wp2
    go_ret
    exact ⟨_, _, rfl, Or.inl rfl, ⟨Nat.le_refl _, Nat.zero_le _⟩, Below.refl _ _⟩
  | some ad =>
    have HP : Hid (BytesAt w (some ad) l) := hp
    have HN : Hid (n = l.length) := hn
    clear hp hn
    go_enter Try.func41, Try.ntmps41
    go_wp2_with (at_builtin; refine wpList_append_listB lenB oneB Try.underlying57 infoU8 rfl (by decide) _ rfl _ _ rfl w.heap.size _ [] rfl (World.ownsRow_made w #[] 0 (Nat.le_refl _) (Nat.zero_le _) (by simp)) (some ad) n cap l rfl HN.out (bytes_rowB (HP.out.below (below1 w _))) (by unfold maxLen; simp; omega) (by simp; omega) (by simp) ?_; intro a' n' c' w1 hown hn' hgrow hat)
    have HO : Hid (OwnL 5 1 encB w1 w.heap.size (.slice a' n' c') l ∧ n' = n) := ⟨by rw [List.nil_append] at hown; exact hown, by rw [hn', HN.out]; simp⟩
    clear hown hn' hat
    go_wp2
    go_ret
    obtain ⟨a2, c2, hv, ht, hc⟩ := HO.out.1.ofB.typed
    cases hv
    have e := HO.out.2
    subst e
    refine ⟨a', c', rfl, ht, hc, ?_⟩
    exact ((Below.refl _ w).alloc (Nat.le_refl _) _).grown hgrow (by simp) (by intro k hk; cases hk; exact Nat.le_refl _)

/-- A net that a call has made: it, and its bytes, lie in blocks of their own kinds, from base on. -/
def NetO (w : World) (base : Nat) (v : Value) (bs : List (List Nat)) : Prop :=
  ∃ X : List XN, OwnL 57 1 encN w base v X ∧ X.map (·.2) = bs ∧ (∀ x ∈ X, BytesT base w x.1.1 x.2) ∧ ∀ x ∈ X, x.2.length ≤ x.1.2 ∧ x.1.2 ≤ maxLen
theorem NetO.nil (w : World) (base : Nat) : NetO w base (.slice none 0 0) [] := ⟨[], OwnL.nil _ _, rfl, (fun x hx => by cases hx), fun x hx => by cases hx⟩
theorem NetO.below {w w' : World} {base : Nat} {v : Value} {bs : List (List Nat)} (h : NetO w base v bs) (hb : Below w.heap.size w w') : NetO w' base v bs := by
  obtain ⟨X, h1, h2, h3, h4⟩ := h
  exact ⟨X, h1.below hb (Nat.le_refl _), h2, fun x hx => (h3 x hx).calm (Calm.below hb (Nat.le_refl _)), h4⟩
theorem NetO.mono {w : World} {base base' : Nat} {v : Value} {bs : List (List Nat)} (h : NetO w base v bs) (hb : base' ≤ base) : NetO w base' v bs := by
  obtain ⟨X, h1, h2, h3, h4⟩ := h
  exact ⟨X, h1.mono hb, h2, fun x hx => (h3 x hx).mono hb, h4⟩
theorem NetO.f {w : World} {base : Nat} {v : Value} {bs : List (List Nat)} (h : NetO w base v bs) {R : Nat → Prop} (hR : ∀ b, R b → b < base) : ∃ a n c X, v = .slice a n c ∧ n = bs.length ∧ NetF R w a n X bs := by
  obtain ⟨X, h1, h2, h3, h4⟩ := h
  obtain ⟨a, c, rfl, hr, _, _⟩ := h1.row lenN
  exact ⟨a, _, c, X, rfl, by rw [← h2, List.length_map], ⟨rfl, hr, h1.outR hR _, h2, fun x hx => (h3 x hx).outR hR, h4⟩⟩
theorem NetO.slice {w : World} {base : Nat} {v : Value} {bs : List (List Nat)} (h : NetO w base v bs) : ∃ a c, v = .slice a bs.length c := by
  obtain ⟨X, h1, h2, -, -⟩ := h
  obtain ⟨a, c, rfl, -, -, -⟩ := h1.row lenN
  exact ⟨a, c, by rw [← h2, List.length_map]⟩
/-- One more is put behind it. -/
theorem NetO.snoc {w w' w'' : World} {base : Nat} {v v'' : Value} {bs : List (List Nat)} {X : List XN} {x : XN} (hX : X.map (·.2) = bs) (h3 : ∀ x ∈ X, BytesT base w x.1.1 x.2) (h4 : ∀ x ∈ X, x.2.length ≤ x.1.2 ∧ x.1.2 ≤ maxLen) (hc : Calm 5 w w') (hown : OwnL 57 1 encN w' base v X)
    (hg : w'.grownBy w'' v.ownBlock) (hown' : OwnL 57 1 encN w'' base v'' (X ++ [x])) (hx : BytesT base w' x.1.1 x.2) (hcp : x.2.length ≤ x.1.2 ∧ x.1.2 ≤ maxLen) : NetO w'' base v'' (bs ++ [x.2]) := by
  have hC : Calm 5 w' w'' := Calm.grown hg (hown.grownT (by decide))
  refine ⟨X ++ [x], hown', by rw [List.map_append, hX]; rfl, fun z hz => ?_, fun z hz => (List.mem_append.1 hz).elim (h4 z) (fun h => by rw [List.mem_singleton.1 h]; exact hcp)⟩
  rcases List.mem_append.1 hz with hz | hz
  · exact ((h3 z hz).calm hc).calm hC
  · rw [List.mem_singleton.1 hz]; exact hx.calm hC

set_option maxRecDepth 20000 in
set_option maxHeartbeats 1000000 in
theorem netOwn_any (R : Nat → Prop) (a : Option Addr) (n cap : Nat) (X : List XN) (bs : List (List Nat)) (w : World) (hN : NetF R w a n X bs) (hl : X.length ≤ 1000000) (hlb : ∀ x ∈ X, x.2.length ≤ 140737488355328) :
    Calls Try.prog 15 #[.slice a n cap] w fun e w' => ∃ v, e = .returned v ∧ NetO w' w.heap.size v bs ∧ Below w.heap.size w w' := by
  have HN : Hid (NetF R w a n X bs ∧ (∀ x ∈ X, x.2.length ≤ 140737488355328) ∧ n = X.length) := ⟨hN, hlb, hN.n⟩
  have hnl : n ≤ 1000000 := by have := hN.n; omega
  clear hN hlb hl
  go_enter Try.func15, Try.ntmps15
  go_wp2
  go_loopw [3, 8] (fun v i w' => ∃ k : Nat, k ≤ n ∧ i = .int .i64 k ∧ Hid (NetO w' w.heap.size v (bs.take k) ∧ Below w.heap.size w w')) (fun _ i _ => n - (intOf i).toNat)
  case atStart => exact ⟨0, Nat.zero_le _, rfl, NetO.nil _ _, Below.refl _ _⟩
  case round =>
    obtain ⟨k, hk, rfl, hR⟩ := hrel
    by_cases hlt : k < n
    · have hkX : k < X.length := by have := HN.out.2.2; omega
      have hsz := hR.out.2.size
      have HE : Hid (bs.take (k + 1) = bs.take k ++ [X[k].2]) := by
        show _ = _
        have e := HN.out.1.says
        subst e
        rw [← List.map_take, ← List.map_take, map_take_succ hkX]
      have hXB := ((HN.out.1.bytes _ (List.getElem_mem hkX)).below hR.out.2).1
      have hXl := HN.out.2.1 _ (List.getElem_mem hkX)
      obtain ⟨Z, z1, z2, z3, z4⟩ := hR.out.1
      have hZl : Z.length = k := by
        have h1 : (Z.map (·.2)).length = (bs.take k).length := by rw [z2]
        have h2 := HN.out.1.says
        subst h2
        simp at h1
        omega
      obtain ⟨av, nv, cv, rfl⟩ := z1.slice lenN
      rcases HN.out.1.row.below hR.out.2 with h0 | ⟨g, o, rfl, hg, hc⟩
      · rw [h0] at hkX; simp at hkX
      have d0 := hc k hkX 0 _ rfl
      generalize X[k] = x at *
      obtain ⟨⟨ax, cx⟩, l⟩ := x
      simp only [Nat.mul_one, Nat.add_zero] at d0 hXB hXl HE
      obtain ⟨ln, HLL⟩ : ∃ ln, Hid (l.length = ln) := ⟨_, rfl⟩
      rw [HLL.out] at d0
      have HW : Hid (OwnL 57 1 encN wr w.heap.size (.slice av nv cv) Z ∧ Z.map (·.2) = bs.take k ∧ (∀ x ∈ Z, BytesT w.heap.size wr x.1.1 x.2) ∧ (∀ x ∈ Z, x.2.length ≤ x.1.2 ∧ x.1.2 ≤ maxLen) ∧ Below w.heap.size w wr ∧ BytesAt wr ax l ∧ l.length ≤ 140737488355328 ∧ Z.length ≤ 1000000) := ⟨z1, z2, z3, z4, hR.out.2, hXB, hXl, by omega⟩
      clear z1 z2 z3 z4 hR hc hXB hXl hZl
      go_wp2_with fail
      refine (cloneB_any ax l cx ln wr HLL.out.symm HW.out.2.2.2.2.2.2.1 HW.out.2.2.2.2.2.1).mono ?_
      rintro e w5 ⟨a5, c5, rfl, hT5, hcp5, hb5⟩
      have HT5 : Hid (BytesT wr.heap.size w5 a5 l ∧ (l.length ≤ c5 ∧ c5 ≤ maxLen) ∧ Below wr.heap.size wr w5) := ⟨hT5, hcp5, hb5⟩
      have hs5 := hb5.size
      have hZl := HW.out.2.2.2.2.2.2.2
      clear hT5 hcp5 hb5 d0
      go_wp2_with (at_builtin; refine wpList_append_listB lenN oneN Try.underlying48 infoBs rfl (by decide) _ rfl _ _ rfl w.heap.size (.slice av nv cv) Z rfl ((HW.out.1.below HT5.out.2.2 (Nat.le_refl _)).below (below1 w5 _) (Nat.le_refl _)) (some ⟨w5.heap.size, 0, none⟩) 1 1 [((a5, c5), l)] rfl rfl (RowAt.one (Blk.new w5 _ _) (by simp [encN, HLL.out])) (by unfold maxLen; simp; omega) (by simp; omega) (by simp; omega) ?_; intro a6 n6 c6 w6 hown6 hn6 hgrow6 hat6; clear hn6)
      have HF : Hid (NetO w6 w.heap.size (.slice a6 n6 c6) (bs.take (k + 1)) ∧ Below w.heap.size w w6) := by
        have hoW := (HW.out.1.below HT5.out.2.2 (Nat.le_refl _)).below (below1 w5 (.cells #[.slice a5 ln c5] 57)) (Nat.le_refl _)
        refine ⟨?_, ((HW.out.2.2.2.2.1.trans (HT5.out.2.2.mono hsz)).alloc (by omega) _).grown hgrow6 (by simp; omega) HW.out.1.base⟩
        rw [HE.out]
        exact NetO.snoc (x := ((a5, c5), l)) HW.out.2.1 HW.out.2.2.1 HW.out.2.2.2.1 ((Calm.below HT5.out.2.2 (Nat.le_refl _)).trans (Calm.alloc _ _ _)) hoW hgrow6 hown6 ((HT5.out.1.mono hsz).calm (Calm.alloc _ _ _)) HT5.out.2.1
      clear hown6 hgrow6 hat6
      go_wp2
      go_roundw
      case rel => exact ⟨k + 1, by omega, by go_num, HF⟩
      case measure => simp [intOf]; omega
    · have HF : Hid (NetO wr w.heap.size u3 bs ∧ Below w.heap.size w wr) := by
        have := hR.out
        rwa [List.take_of_length_le (by have h1 := HN.out.1.says; have h2 := HN.out.2.2; subst h1; simp; omega)] at this
      clear hR
      go_wp2
      go_ret
      exact ⟨_, rfl, HF.out.1, HF.out.2⟩

theorem hasPlace_any (a : Option Addr) (n cap : Nat) (i : Int) (w : World) :
    Calls Try.prog 42 #[.slice a n cap, .int .i64 i] w fun e w' => e = .returned (.bool (decide (0 ≤ i ∧ i < (n : Nat)))) ∧ w' = w := by
  go_enter Try.func42, Try.ntmps42
  by_cases h0 : 0 ≤ i
  · have e : decide (0 ≤ i ∧ i < (n : Nat)) = decide (i < (n : Nat)) := by simp [h0]
    rw [e]
    go_wp2
    go_ret
    exact ⟨rfl, rfl⟩
  · have e : decide (0 ≤ i ∧ i < (n : Nat)) = false := by simp [h0]
    rw [e]
    go_wp2
    go_ret
    exact ⟨rfl, rfl⟩
theorem hasRoom_any (a : Option Addr) (n cap : Nat) (w : World) :
    Calls Try.prog 45 #[.slice a n cap] w fun e w' => e = .returned (.bool (decide (n < 24))) ∧ w' = w := by
  go_enter Try.func45, Try.ntmps45
  go_wp2
  go_ret
  exact ⟨by simp; omega, rfl⟩

end Go.Proofs.Ytmjekpdgmdpndaa
