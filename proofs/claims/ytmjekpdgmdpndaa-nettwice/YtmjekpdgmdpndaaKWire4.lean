/- What wire.wrongParts and wire.Wrong do, called at whatever message. -/
import Derived.Test.YtmjekpdgmdpndaaKWire3
import Derived.Test.YtmjekpdgmdpndaaKPart2
namespace Go.Proofs.Ytmjekpdgmdpndaa
open Go.RowKit
attribute [local go_sem ↓] Go.wp_at_zero Go.wp_at_succ

def wrongP (h : Int) (l : List P3) : Int := if wrong l 3 = 0 then (if (ofB l h).length < l.length then 3 else 0) else wrong l 3
theorem OwnP.slice {w : World} {base : Nat} {v : Value} {l : List P3} (h : OwnP w base v l) : ∃ a cap, v = .slice a l.length cap := by
  obtain ⟨a, cap, e, _⟩ := h.parts
  exact ⟨a, cap, e⟩

set_option maxHeartbeats 1000000 in
theorem wrongP_any (k d h : Int) (a : Option Addr) (l : List P3) (cap n : Nat) (w : World) (hn : n = l.length) (hm : l.length ≤ 9223372036854775807) (hp : PartsAt w a l) (hcap : l.length ≤ cap) :
    Calls Try.prog 91 #[.agg #[.int .i64 k, .int .i64 d, .int .i64 h, .slice a n cap]] w fun e w' => e = .returned (.int .i64 (wrongP h l)) ∧ Below w.heap.size w w' := by
  subst hn
  go_enter Try.func91, Try.ntmps91
  go_wp2_with fail
  refine (wrong_any a l cap 3 _ hm (hp.below (below1 w _)) hcap).mono ?_
  rintro e w1 ⟨rfl, hb1⟩
  have hB1 : Below w.heap.size w w1 := (below1 w _).trans (hb1.mono (by simp))
  have hs1 : w.heap.size + 1 ≤ w1.heap.size := by have := hb1.size; simpa using this
  have q2 : w1.cell? ⟨w.heap.size, 2, none⟩ = some (.int .i64 h) := by rw [hb1.cell (p := ⟨w.heap.size, 2, none⟩) (by simp)]; simp
  have q3 : w1.cell? ⟨w.heap.size, 3, none⟩ = some (.slice a l.length cap) := by rw [hb1.cell (p := ⟨w.heap.size, 3, none⟩) (by simp)]; simp
  have hp1 := hp.below hB1
  clear hb1 hp
  by_cases h0 : wrong l 3 = 0
  · have h4 : l.length ≤ 4 := (wrong_ok h0).2.1
    have HW : Hid (wrongP h l = if (ofB l h).length < l.length then 3 else 0) := by show _ = _; simp only [wrongP, h0, if_true]
    rw [h0]
    clear h0
    have HK : Hid (∀ w', Below w1.heap.size w1 w' → w'.cell? ⟨w.heap.size, 2, none⟩ = some (.int .i64 h) ∧ w'.cell? ⟨w.heap.size, 3, none⟩ = some (.slice a l.length cap)) := by
      show ∀ w', _
      intro w' hb'
      obtain ⟨hc', _⟩ := bcell hb'
      rw [hc' _ _ (by omega), hc' _ _ (by omega)]
      exact ⟨q2, q3⟩
    go_wp2_with fail
    go_region_held3 (fun w' => w'.cell? ⟨w.heap.size, 2, none⟩ = some (.int .i64 h) ∧ w'.cell? ⟨w.heap.size, 3, none⟩ = some (.slice a l.length cap)) (
      first
      | exact HK.out _ (Below.refl _ _)
      | exact HK.out _ (Below.refl _ _).drew
      | exact HK.out _ ((Below.refl _ _).drew.trans hb2)) (
      first
      | (go_at_call 62; refine (of_any h a l cap l.length _ rfl h4 (by exact hp1.below (Below.refl _ _).drew)).mono ?_; rintro e w2 ⟨v2, rfl, ho2, hb2⟩; obtain ⟨a2, cap2, rfl⟩ := ho2.slice; clear ho2))
    have hB2 : Below w.heap.size w w2 := hB1.trans (((Below.refl w1.heap.size w1).drew.trans hb2).mono (by omega))
    clear HK q2 q3 hb2 hp1
    by_cases hlt : (ofB l h).length < l.length
    · have HR : Hid (wrongP h l = 3) := by show _ = _; rw [HW.out, if_pos hlt]
      have hd : decide ((ofB l h).length < l.length) = true := by simpa using hlt
      rw [hd]
      clear hd hlt HW
      go_wp2
      go_ret
      exact ⟨ret_int HR.out.symm, hB2⟩
    · have HR : Hid (wrongP h l = 0) := by show _ = _; rw [HW.out, if_neg hlt]
      have hd : decide ((ofB l h).length < l.length) = false := by simpa using hlt
      rw [hd]
      clear hd hlt HW
      go_wp2
      go_ret
      exact ⟨ret_int HR.out.symm, hB2⟩
  · have HW : Hid (wrongP h l = wrong l 3) := by show _ = _; simp only [wrongP, h0, if_false]
    generalize wrong l 3 = x at *
    go_wp2
    go_ret
    exact ⟨ret_int HW.out.symm, hB1⟩

set_option maxHeartbeats 1000000 in
theorem wrongM_any (k d h : Int) (a : Option Addr) (l : List P3) (cap n : Nat) (w : World) (hn : n = l.length) (hm : l.length ≤ 9223372036854775807) (hp : PartsAt w a l) (hcap : l.length ≤ cap) :
    Calls Try.prog 68 #[.agg #[.int .i64 k, .int .i64 d, .int .i64 h, .slice a n cap]] w fun e w' => e = .returned (.int .i64 (wrongM (k, d, h, l))) ∧ Below w.heap.size w w' := by
  subst hn
  by_cases hk : k < 1 ∨ 7 < k
  · have HW : Hid (wrongM (k, d, h, l) = 1) := by show _ = _; simp only [wrongM, hk, if_true]
    clear hp
    rcases hk with hk | hk
    all_goals
      go_enter Try.func68, Try.ntmps68
      go_wp2
      go_ret
      exact ⟨ret_int HW.out.symm, below1 _ _⟩
  by_cases hd : d < 0 ∨ 1344 ≤ d ∨ h < 0 ∨ 3 ≤ h
  · have HW : Hid (wrongM (k, d, h, l) = 3) := by show _ = _; simp only [wrongM, hk, hd, if_true, if_false]
    have hk1 : 1 ≤ k := by omega
    have hk2 : k ≤ 7 := by omega
    clear hp hk
    by_cases d1 : d < 0
    · clear hd
      go_enter Try.func68, Try.ntmps68
      go_wp2
      go_ret
      exact ⟨ret_int HW.out.symm, below1 _ _⟩
    by_cases d2 : 1344 ≤ d
    · clear hd
      go_enter Try.func68, Try.ntmps68
      go_wp2
      go_ret
      exact ⟨ret_int HW.out.symm, below1 _ _⟩
    by_cases d3 : h < 0
    · clear hd
      go_enter Try.func68, Try.ntmps68
      go_wp2
      go_ret
      exact ⟨ret_int HW.out.symm, below1 _ _⟩
    · have d4 : 3 ≤ h := by omega
      clear hd
      go_enter Try.func68, Try.ntmps68
      go_wp2
      go_ret
      exact ⟨ret_int HW.out.symm, below1 _ _⟩
  have hk1 : 1 ≤ k := by omega
  have hk2 : k ≤ 7 := by omega
  have d1 : 0 ≤ d := by omega
  have d2 : d < 1344 := by omega
  have d3 : 0 ≤ h := by omega
  have d4 : h < 3 := by omega
  by_cases h1 : k = 1
  · have HW : Hid (wrongM (k, d, h, l) = wrongP h l) := by show _ = _; unfold wrongM wrongP; rw [if_neg hk, if_neg hd, if_pos h1]
    subst h1
    have HC := wrongP_any 1 d h a l cap l.length (w.alloc (.cells #[.int .i64 1, .int .i64 d, .int .i64 h, .slice a l.length cap] 43)) rfl hm (hp.below (below1 w _)) hcap
    clear hp hk hd
    go_enter Try.func68, Try.ntmps68
    go_wp2_with fail
    refine HC.mono ?_
    rintro e w1 ⟨rfl, hb1⟩
    clear HC
    go_wp2
    go_ret
    exact ⟨ret_int HW.out.symm, (below1 w _).trans (hb1.mono (by simp))⟩
  · have hk3 : 1 < k := by omega
    by_cases h0 : 0 < l.length
    · have HW : Hid (wrongM (k, d, h, l) = 5) := by show _ = _; simp only [wrongM, hk, hd, h1, h0, if_true, if_false]
      clear hp hk hd h1
      go_enter Try.func68, Try.ntmps68
      go_wp2
      go_ret
      exact ⟨ret_int HW.out.symm, below1 _ _⟩
    · have HW : Hid (wrongM (k, d, h, l) = 0) := by show _ = _; simp only [wrongM, hk, hd, h1, h0, if_false]
      clear hp hk hd h1
      go_enter Try.func68, Try.ntmps68
      go_wp2
      go_ret
      exact ⟨ret_int HW.out.symm, below1 _ _⟩

end Go.Proofs.Ytmjekpdgmdpndaa
