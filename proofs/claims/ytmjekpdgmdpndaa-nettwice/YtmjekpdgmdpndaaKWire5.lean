/- What the closure in wire.message does: it takes a number off the rest, if nothing was wrong till now. -/
import Derived.Test.YtmjekpdgmdpndaaKWire4
import Derived.Test.YtmjekpdgmdpndaaKJ01
namespace Go.Proofs.Ytmjekpdgmdpndaa
open Go.RowKit
attribute [local go_sem ↓] Go.wp_at_zero Go.wp_at_succ

theorem getGo_le : ∀ (b : List Nat) (k u : Nat), (getGo k u b).2.1 ≤ k + b.length
  | [], k, u => by simp [getGo]
  | c :: t, k, u => by
    have ih := getGo_le t (k + 1)
    unfold getGo
    split
    · simp
    split
    · have := ih (u + c % 128 * 128 ^ k); simp; omega
    split
    · simp
    · simp
theorem getB_le (b : List Nat) : (getB b).2.1 ≤ b.length := by have := getGo_le b 0 0; simpa [getB] using this

/-- What the closure has: the rest in block N + 1, what is wrong in block N + 2. -/
def StAt (w : World) (N : Nat) (st : List Nat × Int) : Prop :=
  ∃ b o cap, Blk w (N + 1) #[.slice (some ⟨b, o, none⟩) st.1.length cap] 57 ∧ Blk w (N + 2) #[.int .i64 st.2] 32 ∧ b < N ∧ st.1.length ≤ cap ∧ cap ≤ 9223372036854775807 ∧ Byt st.1 ∧
    ∀ i (h : i < st.1.length), w.cell? ⟨b, o + i, none⟩ = some (.int .u8 (st.1[i] : Nat))
/-- The blocks that the closure turns. -/
def Two (N k : Nat) : Prop := k = N + 1 ∨ k = N + 2

theorem st_put {w : World} {N b o cap : Nat} {u v : Value} {l : List Nat} {y : Int} {n : Nat} (hn : n = l.length) (hr : Blk w (N + 1) #[u] 57) (he : Blk w (N + 2) #[v] 32) (hbN : b < N) (hcap : l.length ≤ cap) (hmax : cap ≤ 9223372036854775807) (hbyt : Byt l)
    (hc : ∀ i (h : i < l.length), w.cell? ⟨b, o + i, none⟩ = some (.int .u8 (l[i] : Nat))) :
    StAt ((w.setCell ⟨N + 1, 0, none⟩ (.slice (some ⟨b, o, none⟩) n cap)).setCell ⟨N + 2, 0, none⟩ (.int .i64 y)) N (l, y) ∧ Keep (Two N) w ((w.setCell ⟨N + 1, 0, none⟩ (.slice (some ⟨b, o, none⟩) n cap)).setCell ⟨N + 2, 0, none⟩ (.int .i64 y)) := by
  subst hn
  have hk : Keep (Two N) w ((w.setCell ⟨N + 1, 0, none⟩ (.slice (some ⟨b, o, none⟩) l.length cap)).setCell ⟨N + 2, 0, none⟩ (.int .i64 y)) :=
    ((Keep.refl _ _).setCell (Or.inl rfl) _).setCell (Or.inr rfl) _
  refine ⟨⟨b, o, cap, ?_, ?_, hbN, hcap, hmax, hbyt, fun i hi => ?_⟩, hk⟩
  · exact (hr.set 0 _).setOther (by simp) _
  · exact (he.setOther (by simp) _).set 0 _
  · rw [hk.cell (by have := hr.lt; omega) (by unfold Two; omega)]
    exact hc i hi

set_option maxHeartbeats 1000000 in
theorem take_any (N : Nat) (l : List Nat) (x : Int) (w : World) (h : StAt w N (l, x)) :
    Calls Try.prog 89 #[.pointer (some ⟨N + 2, 0, none⟩), .pointer (some ⟨N + 1, 0, none⟩)] w fun e w' => e = .returned (.int .i64 (stepB (l, x)).1) ∧ StAt w' N (stepB (l, x)).2 ∧ Keep (Two N) w w' := by
  obtain ⟨b, o, cap, hr, he, hbN, hcap, hmax, hbyt, hc⟩ := h
  have c0 := hr.cell 0
  have c1 := he.cell 0
  have f0 := hr.free 0
  have f1 := he.free 0
  have hsz := he.lt
  simp at c0 c1
  by_cases hx : x = 0
  · subst hx
    have hle := getB_le l
    have HS : Hid (stepB (l, 0) = ((getB l).1, l.drop (getB l).2.1, (getB l).2.2)) := by show _ = _; simp [stepB]
    have HG := get_any (some ⟨b, o, none⟩) l cap l.length w rfl (by simp at hcap; omega) hbyt (Or.inr ⟨b, o, rfl, by omega, hc⟩)
    simp only at hcap
    generalize getB l = g at *
    obtain ⟨n, j, y⟩ := g
    simp only at HG hle HS
    have HD : Hid (∀ i (h : i < (l.drop j).length), w.cell? ⟨b, o + j + i, none⟩ = some (.int .u8 ((l.drop j)[i] : Nat))) := by
      show ∀ i, _
      intro i hi
      have hi' : j + i < l.length := by simp at hi; omega
      have := hc (j + i) hi'
      rw [Nat.add_assoc]
      simpa using this
    have HBT : Hid (Byt (l.drop j)) := fun c hc => hbyt c (List.mem_of_mem_drop hc)
    clear hc hbyt
    go_enter Try.func89, Try.ntmps89
    go_wp2_with fail
    refine HG.mono ?_
    rintro e w1 ⟨rfl, rfl⟩
    clear HG
    go_wp2_with fail
    · go_ret
      rw [HS.out]
      have hnil : l.drop j = [] := List.drop_eq_nil_of_le (by omega)
      have hp := st_put (w := w1) (l := l.drop j) (n := l.length - j) (b := b) (o := o) (cap := 0) (y := y) (by simp) hr he hbN (by simp [hnil]) (by omega) HBT.out (fun i hi => by simp [hnil] at hi)
      exact ⟨rfl, hp.1, hp.2⟩
    · go_ret
      rw [HS.out]
      have hp := st_put (w := w1) (l := l.drop j) (n := l.length - j) (b := b) (o := o + j) (cap := cap - j) (y := y) (by simp) hr he hbN (by simp; omega) (by omega) HBT.out HD.out
      exact ⟨rfl, hp.1, hp.2⟩
  · have HS : Hid (stepB (l, x) = (0, l, x)) := by show _ = _; simp [stepB, hx]
    simp only at hcap
    go_enter Try.func89, Try.ntmps89
    go_wp2
    go_ret
    rw [HS.out]
    exact ⟨rfl, ⟨b, o, cap, hr, he, hbN, hcap, hmax, hbyt, hc⟩, Keep.refl _ _⟩

end Go.Proofs.Ytmjekpdgmdpndaa
