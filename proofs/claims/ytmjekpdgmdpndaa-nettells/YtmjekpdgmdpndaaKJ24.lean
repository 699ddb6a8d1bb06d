/- Several texts in one: What wire.wrongParts and wire.Wrong do, called at whatever message; What the closure in wire.message does: it takes a number off the rest, if nothing was wrong till now. -/
import Derived.Test.YtmjekpdgmdpndaaKWire3
import Derived.Test.YtmjekpdgmdpndaaKJ23
import Derived.Test.YtmjekpdgmdpndaaKJ01
namespace Go.Proofs.Ytmjekpdgmdpndaa
open Go.RowKit
attribute [local go_sem ↓] Go.wp_at_zero Go.wp_at_succ

def wrongP (h : Int) (l : List P3) : Int := if wrong l 3 = 0 then (if (ofB l h).length < l.length then 3 else 0) else wrong l 3
theorem OwnP.slice {w : World} {base : Nat} {v : Value} {l : List P3} (h : OwnP w base v l) : ∃ a cap, v = .slice a l.length cap := by
  obtain ⟨a, cap, e, _⟩ := h.parts
  exact ⟨a, cap, e⟩

set_option maxHeartbeats 1000000 in
theorem wrongP_any (k d h : Int) (a : Option Addr) (l : List P3) (cap n : Nat) (w : World) (hn : n = l.length) (hm : l.length ≤ 9223372036854775807) (hp : PartsAt w a l) (hcap : l.length ≤ cap) :
    Calls Try.prog 91 #[.agg #[.int .i64 k, .int .i64 d, .int .i64 h, .slice a n cap]] w fun e w' => e = .returned (.int .i64 (wrongP h l)) ∧ Below w.heap.size w w' := by
  subst hn
  go_enter Try.func91, Try.ntmps91
  go_wp2_with fail
  refine (wrong_any a l cap 3 _ hm (hp.below (below1 w _)) hcap).mono ?_
  rintro e w1 ⟨rfl, hb1⟩
  have hB1 : Below w.heap.size w w1 := (below1 w _).trans (hb1.mono (by simp))
  have hs1 : w.heap.size + 1 ≤ w1.heap.size := by have := hb1.size; simpa using this
  have q2 : w1.cell? ⟨w.heap.size, 2, none⟩ = some (.int .i64 h) := by rw [hb1.cell (p := ⟨w.heap.size, 2, none⟩) (by simp)]; simp
  have q3 : w1.cell? ⟨w.heap.size, 3, none⟩ = some (.slice a l.length cap) := by rw [hb1.cell (p := ⟨w.heap.size, 3, none⟩) (by simp)]; simp
  have hp1 := hp.below hB1
  clear hb1 hp
  by_cases h0 : wrong l 3 = 0
  · have h4 : l.length ≤ 4 := (wrong_ok h0).2.1
    have HW : Hid (wrongP h l = if (ofB l h).length < l.length then 3 else 0) := by show _ = _; simp only [wrongP, h0, if_true]
    rw [h0]
    clear h0
    have HK : Hid (∀ w', Below w1.heap.size w1 w' → w'.cell? ⟨w.heap.size, 2, none⟩ = some (.int .i64 h) ∧ w'.cell? ⟨w.heap.size, 3, none⟩ = some (.slice a l.length cap)) := by
      show ∀ w', _
      intro w' hb'
      obtain ⟨hc', _⟩ := bcell hb'
      rw [hc' _ _ (by omega), hc' _ _ (by omega)]
      exact ⟨q2, q3⟩
    go_wp2_with fail
    go_region_held3 (fun w' => w'.cell? ⟨w.heap.size, 2, none⟩ = some (.int .i64 h) ∧ w'.cell? ⟨w.heap.size, 3, none⟩ = some (.slice a l.length cap)) (
      first
      | exact HK.out _ (Below.refl _ _)
      | exact HK.out _ (Below.refl _ _).drew
      | exact HK.out _ ((Below.refl _ _).drew.trans hb2)) (
      first
      | (go_at_call 62; refine (of_any h a l cap l.length _ rfl h4 (by exact hp1.below (Below.refl _ _).drew)).mono ?_; rintro e w2 ⟨v2, rfl, ho2, hb2⟩; obtain ⟨a2, cap2, rfl⟩ := ho2.slice; clear ho2))
    have hB2 : Below w.heap.size w w2 := hB1.trans (((Below.refl w1.heap.size w1).drew.trans hb2).mono (by omega))
    clear HK q2 q3 hb2 hp1
    by_cases hlt : (ofB l h).length < l.length
    · have HR : Hid (wrongP h l = 3) := by show _ = _; rw [HW.out, if_pos hlt]
      have hd : decide ((ofB l h).length < l.length) = true := by simpa using hlt
      rw [hd]
      clear hd hlt HW
      go_wp2
      go_ret
      exact ⟨ret_int HR.out.symm, hB2⟩
    · have HR : Hid (wrongP h l = 0) := by show _ = _; rw [HW.out, if_neg hlt]
      have hd : decide ((ofB l h).length < l.length) = false := by simpa using hlt
      rw [hd]
      clear hd hlt HW
      go_wp2
      go_ret
      exact ⟨ret_int HR.out.symm, hB2⟩
  · have HW : Hid (wrongP h l = wrong l 3) := by show _ = _; simp only [wrongP, h0, if_false]
    generalize wrong l 3 = x at *
    go_wp2
    go_ret
    exact ⟨ret_int HW.out.symm, hB1⟩

set_option maxHeartbeats 1000000 in
theorem wrongM_any (k d h : Int) (a : Option Addr) (l : List P3) (cap n : Nat) (w : World) (hn : n = l.length) (hm : l.length ≤ 9223372036854775807) (hp : PartsAt w a l) (hcap : l.length ≤ cap) :
    Calls Try.prog 68 #[.agg #[.int .i64 k, .int .i64 d, .int .i64 h, .slice a n cap]] w fun e w' => e = .returned (.int .i64 (wrongM (k, d, h, l))) ∧ Below w.heap.size w w' := by
  subst hn
  by_cases hk : k < 1 ∨ 7 < k
  · have HW : Hid (wrongM (k, d, h, l) = 1) := by show _ = _; simp only [wrongM, hk, if_true]
    clear hp
    rcases hk with hk | hk
    all_goals
      go_enter Try.func68, Try.ntmps68
      go_wp2
      go_ret
      exact ⟨ret_int HW.out.symm, below1 _ _⟩
  by_cases hd : d < 0 ∨ 1344 ≤ d ∨ h < 0 ∨ 3 ≤ h
  · have HW : Hid (wrongM (k, d, h, l) = 3) := by show _ = _; simp only [wrongM, hk, hd, if_true, if_false]
    have hk1 : 1 ≤ k := by omega
    have hk2 : k ≤ 7 := by omega
    clear hp hk
    by_cases d1 : d < 0
    · clear hd
      go_enter Try.func68, Try.ntmps68
      go_wp2
      go_ret
      exact ⟨ret_int HW.out.symm, below1 _ _⟩
    by_cases d2 : 1344 ≤ d
    · clear hd
      go_enter Try.func68, Try.ntmps68
      go_wp2
      go_ret
      exact ⟨ret_int HW.out.symm, below1 _ _⟩
    by_cases d3 : h < 0
    · clear hd
      go_enter Try.func68, Try.ntmps68
      go_wp2
      go_ret
      exact ⟨ret_int HW.out.symm, below1 _ _⟩
    · have d4 : 3 ≤ h := by omega
      clear hd
      go_enter Try.func68, Try.ntmps68
      go_wp2
      go_ret
      exact ⟨ret_int HW.out.symm, below1 _ _⟩
  have hk1 : 1 ≤ k := by omega
  have hk2 : k ≤ 7 := by omega
  have d1 : 0 ≤ d := by omega
  have d2 : d < 1344 := by omega
  have d3 : 0 ≤ h := by omega
  have d4 : h < 3 := by omega
  by_cases h1 : k = 1
  · have HW : Hid (wrongM (k, d, h, l) = wrongP h l) := by show _ = _; unfold wrongM wrongP; rw [if_neg hk, if_neg hd, if_pos h1]
    subst h1
    have HC := wrongP_any 1 d h a l cap l.length (w.alloc (.cells #[.int .i64 1, .int .i64 d, .int .i64 h, .slice a l.length cap] 43)) rfl hm (hp.below (below1 w _)) hcap
    clear hp hk hd
    go_enter Try.func68, Try.ntmps68
    go_wp2_with fail
    refine HC.mono ?_
    rintro e w1 ⟨rfl, hb1⟩
    clear HC
    go_wp2
    go_ret
    exact ⟨ret_int HW.out.symm, (below1 w _).trans (hb1.mono (by simp))⟩
  · have hk3 : 1 < k := by omega
    by_cases h0 : 0 < l.length
    · have HW : Hid (wrongM (k, d, h, l) = 5) := by show _ = _; simp only [wrongM, hk, hd, h1, h0, if_true, if_false]
      clear hp hk hd h1
      go_enter Try.func68, Try.ntmps68
      go_wp2
      go_ret
      exact ⟨ret_int HW.out.symm, below1 _ _⟩
    · have HW : Hid (wrongM (k, d, h, l) = 0) := by show _ = _; simp only [wrongM, hk, hd, h1, h0, if_false]
      clear hp hk hd h1
      go_enter Try.func68, Try.ntmps68
      go_wp2
      go_ret
      exact ⟨ret_int HW.out.symm, below1 _ _⟩

end Go.Proofs.Ytmjekpdgmdpndaa

namespace Go.Proofs.Ytmjekpdgmdpndaa
open Go.RowKit
attribute [local go_sem ↓] Go.wp_at_zero Go.wp_at_succ

theorem getGo_le : ∀ (b : List Nat) (k u : Nat), (getGo k u b).2.1 ≤ k + b.length
  | [], k, u => by simp [getGo]
  | c :: t, k, u => by
    have ih := getGo_le t (k + 1)
    unfold getGo
    split
    · simp
    split
    · have := ih (u + c % 128 * 128 ^ k); simp; omega
    split
    · simp
    · simp
theorem getB_le (b : List Nat) : (getB b).2.1 ≤ b.length := by have := getGo_le b 0 0; simpa [getB] using this

/-- What the closure has: the rest in block N + 1, what is wrong in block N + 2. -/
def StAt (w : World) (N : Nat) (st : List Nat × Int) : Prop :=
  ∃ b o cap, Blk w (N + 1) #[.slice (some ⟨b, o, none⟩) st.1.length cap] 57 ∧ Blk w (N + 2) #[.int .i64 st.2] 32 ∧ b < N ∧ st.1.length ≤ cap ∧ cap ≤ 9223372036854775807 ∧ Byt st.1 ∧
    ∀ i (h : i < st.1.length), w.cell? ⟨b, o + i, none⟩ = some (.int .u8 (st.1[i] : Nat))
/-- The blocks that the closure turns. -/
def Two (N k : Nat) : Prop := k = N + 1 ∨ k = N + 2

theorem st_put {w : World} {N b o cap : Nat} {u v : Value} {l : List Nat} {y : Int} {n : Nat} (hn : n = l.length) (hr : Blk w (N + 1) #[u] 57) (he : Blk w (N + 2) #[v] 32) (hbN : b < N) (hcap : l.length ≤ cap) (hmax : cap ≤ 9223372036854775807) (hbyt : Byt l)
    (hc : ∀ i (h : i < l.length), w.cell? ⟨b, o + i, none⟩ = some (.int .u8 (l[i] : Nat))) :
    StAt ((w.setCell ⟨N + 1, 0, none⟩ (.slice (some ⟨b, o, none⟩) n cap)).setCell ⟨N + 2, 0, none⟩ (.int .i64 y)) N (l, y) ∧ Keep (Two N) w ((w.setCell ⟨N + 1, 0, none⟩ (.slice (some ⟨b, o, none⟩) n cap)).setCell ⟨N + 2, 0, none⟩ (.int .i64 y)) := by
  subst hn
  have hk : Keep (Two N) w ((w.setCell ⟨N + 1, 0, none⟩ (.slice (some ⟨b, o, none⟩) l.length cap)).setCell ⟨N + 2, 0, none⟩ (.int .i64 y)) :=
    ((Keep.refl _ _).setCell (Or.inl rfl) _).setCell (Or.inr rfl) _
  refine ⟨⟨b, o, cap, ?_, ?_, hbN, hcap, hmax, hbyt, fun i hi => ?_⟩, hk⟩
  · exact (hr.set 0 _).setOther (by simp) _
  · exact (he.setOther (by simp) _).set 0 _
  · rw [hk.cell (by have := hr.lt; omega) (by unfold Two; omega)]
    exact hc i hi

set_option maxHeartbeats 1000000 in
theorem take_any (N : Nat) (l : List Nat) (x : Int) (w : World) (h : StAt w N (l, x)) :
    Calls Try.prog 89 #[.pointer (some ⟨N + 2, 0, none⟩), .pointer (some ⟨N + 1, 0, none⟩)] w fun e w' => e = .returned (.int .i64 (stepB (l, x)).1) ∧ StAt w' N (stepB (l, x)).2 ∧ Keep (Two N) w w' := by
  obtain ⟨b, o, cap, hr, he, hbN, hcap, hmax, hbyt, hc⟩ := h
  have c0 := hr.cell 0
  have c1 := he.cell 0
  have f0 := hr.free 0
  have f1 := he.free 0
  have hsz := he.lt
  simp at c0 c1
  by_cases hx : x = 0
  · subst hx
    have hle := getB_le l
    have HS : Hid (stepB (l, 0) = ((getB l).1, l.drop (getB l).2.1, (getB l).2.2)) := by show _ = _; simp [stepB]
    have HG := get_any (some ⟨b, o, none⟩) l cap l.length w rfl (by simp at hcap; omega) hbyt (Or.inr ⟨b, o, rfl, by omega, hc⟩)
    simp only at hcap
    generalize getB l = g at *
    obtain ⟨n, j, y⟩ := g
    simp only at HG hle HS
    have HD : Hid (∀ i (h : i < (l.drop j).length), w.cell? ⟨b, o + j + i, none⟩ = some (.int .u8 ((l.drop j)[i] : Nat))) := by
      show ∀ i, _
      intro i hi
      have hi' : j + i < l.length := by simp at hi; omega
      have := hc (j + i) hi'
      rw [Nat.add_assoc]
      simpa using this
    have HBT : Hid (Byt (l.drop j)) := fun c hc => hbyt c (List.mem_of_mem_drop hc)
    clear hc hbyt
    go_enter Try.func89, Try.ntmps89
    go_wp2_with fail
    refine HG.mono ?_
    rintro e w1 ⟨rfl, rfl⟩
    clear HG
    go_wp2_with fail
    · go_ret
      rw [HS.out]
      have hnil : l.drop j = [] := List.drop_eq_nil_of_le (by omega)
      have hp := st_put (w := w1) (l := l.drop j) (n := l.length - j) (b := b) (o := o) (cap := 0) (y := y) (by simp) hr he hbN (by simp [hnil]) (by omega) HBT.out (fun i hi => by simp [hnil] at hi)
      exact ⟨rfl, hp.1, hp.2⟩
    · go_ret
      rw [HS.out]
      have hp := st_put (w := w1) (l := l.drop j) (n := l.length - j) (b := b) (o := o + j) (cap := cap - j) (y := y) (by simp) hr he hbN (by simp; omega) (by omega) HBT.out HD.out
      exact ⟨rfl, hp.1, hp.2⟩
  · have HS : Hid (stepB (l, x) = (0, l, x)) := by show _ = _; simp [stepB, hx]
    simp only at hcap
    go_enter Try.func89, Try.ntmps89
    go_wp2
    go_ret
    rw [HS.out]
    exact ⟨rfl, ⟨b, o, cap, hr, he, hbN, hcap, hmax, hbyt, hc⟩, Keep.refl _ _⟩

end Go.Proofs.Ytmjekpdgmdpndaa
