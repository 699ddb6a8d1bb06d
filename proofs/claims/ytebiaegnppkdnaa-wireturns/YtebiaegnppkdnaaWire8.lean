/- What the document's SameMsg does at two messages that are the same, and what alive does. -/
import Derived.Test.YtebiaegnppkdnaaWire7
import Derived.Test.YtebiaegnppkdnaaSame
namespace Go.Proofs.Ytebiaegnppkdnaa
open Go.RowKit
attribute [local go_sem ↓] Go.wp_at_zero Go.wp_at_succ

theorem OwnB.bytes2 {w : World} {base : Nat} {v : Value} {l : List Nat} (h : OwnB w base v l) : ∃ a cap, v = .slice a l.length cap ∧ BytesAt w a l ∧ l.length ≤ cap ∧ cap ≤ 9223372036854775807 := by
  obtain ⟨a, cap, rfl, h1, h2⟩ := h.bytes
  refine ⟨a, cap, rfl, h1, h2, ?_⟩
  rcases h.2 with ⟨hv, _⟩ | ⟨g, cap', cur, hv, hg, hh, _, hm, _⟩
  · injection hv with _ _ e; omega
  · injection hv with _ _ e; unfold maxLen at hm; omega

set_option maxHeartbeats 1000000 in
theorem sameMsg_self (k d h : Int) (a1 a2 : Option Addr) (l : List P3) (c1 c2 n1 n2 : Nat) (w : World) (hn1 : n1 = l.length) (hn2 : n2 = l.length) (hl : l.length ≤ 1000000) (hp1 : PartsAt w a1 l) (hp2 : PartsAt w a2 l) :
    Calls Try.prog 24 #[.agg #[.int .i64 k, .int .i64 d, .int .i64 h, .slice a1 n1 c1], .agg #[.int .i64 k, .int .i64 d, .int .i64 h, .slice a2 n2 c2]] w fun e w' => e = .returned (.bool true) ∧ Below w.heap.size w w' := by
  subst hn1 hn2
  have HS := sameParts_any a1 a2 l l c1 c2 l.length l.length ((w.alloc (.cells #[.int .i64 k, .int .i64 d, .int .i64 h, .slice a1 l.length c1] 39)).alloc (.cells #[.int .i64 k, .int .i64 d, .int .i64 h, .slice a2 l.length c2] 39)) rfl rfl hl hl (hp1.below (below2 _ _ _)) (hp2.below (below2 _ _ _))
  have hd : decide (l = l) = true := by simp
  rw [hd] at HS
  clear hp1 hp2 hd
  go_enter Try.func24, Try.ntmps24
  go_wp2_with fail
  refine HS.mono ?_
  rintro e w1 ⟨rfl, hb1⟩
  clear HS
  go_wp2
  go_ret
  exact ⟨rfl, (below2 _ _ _).trans (hb1.mono (by simp; omega))⟩

def mA : M4 := (1, 70, 2, [(2, 1, -5)])
theorem mA_ok : wrongM mA = 0 := by decide +kernel
theorem num300 : (numB (-300)).length = 2 := by decide +kernel

set_option maxHeartbeats 2000000 in
theorem alive2_any (w : World) : Calls Try.prog 20 #[] w fun e w' => e = .returned (.bool true) ∧ Below w.heap.size w w' := by
  go_enter Try.func20, Try.ntmps20
  go_wp2_with fail
  have hp0 : PartsAt ((w.alloc (.cells #[.int .i64 2, .int .i64 1, .int .i64 (-5)] 36)).alloc (.cells #[.int .i64 1, .int .i64 70, .int .i64 2, .slice (some ⟨w.heap.size, 0, none⟩) 1 1] 39)) (some ⟨w.heap.size, 0, none⟩) [(2, 1, -5)] := by
    refine Or.inr ⟨w.heap.size, 0, rfl, by simp; omega, fun i hi => ?_⟩
    have : i = 0 := by simp at hi; omega
    subst this
    refine ⟨?_, ?_, ?_⟩ <;> (rw [Below.cell (below1 _ _) (by simp)]; simp)
  have hm0 : Blk ((w.alloc (.cells #[.int .i64 2, .int .i64 1, .int .i64 (-5)] 36)).alloc (.cells #[.int .i64 1, .int .i64 70, .int .i64 2, .slice (some ⟨w.heap.size, 0, none⟩) 1 1] 39)) (w.heap.size + 1) #[.int .i64 1, .int .i64 70, .int .i64 2, .slice (some ⟨w.heap.size, 0, none⟩) 1 1] 39 := by
    have := Blk.new (w.alloc (.cells #[.int .i64 2, .int .i64 1, .int .i64 (-5)] 36)) #[.int .i64 1, .int .i64 70, .int .i64 2, .slice (some ⟨w.heap.size, 0, none⟩) 1 1] 39
    rw [World.size_alloc] at this
    exact this
  have hW0 : Below w.heap.size w ((w.alloc (.cells #[.int .i64 2, .int .i64 1, .int .i64 (-5)] 36)).alloc (.cells #[.int .i64 1, .int .i64 70, .int .i64 2, .slice (some ⟨w.heap.size, 0, none⟩) 1 1] 39)) := below2 _ _ _
  have hs0 : ((w.alloc (.cells #[.int .i64 2, .int .i64 1, .int .i64 (-5)] 36)).alloc (.cells #[.int .i64 1, .int .i64 70, .int .i64 2, .slice (some ⟨w.heap.size, 0, none⟩) 1 1] 39)).heap.size = w.heap.size + 2 := by simp
  generalize ((w.alloc (.cells #[.int .i64 2, .int .i64 1, .int .i64 (-5)] 36)).alloc (.cells #[.int .i64 1, .int .i64 70, .int .i64 2, .slice (some ⟨w.heap.size, 0, none⟩) 1 1] 39)) = W0 at *
  refine (bytes_any 1 70 2 (some ⟨w.heap.size, 0, none⟩) [(2, 1, -5)] 1 1 W0 rfl (by simp) hp0 (by omega) (by omega) (by intro p hp; simp at hp; subst hp; simp)).mono ?_
  rintro e w1 ⟨v1, rfl, ho1, hb1⟩
  have ho1' : OwnB w1 W0.heap.size v1 (bytesB mA) := ho1
  have hB1 := hm0.below hb1 hm0.lt
  have hp1 := hp0.below hb1
  have hbw1 : Below w.heap.size w w1 := hW0.trans (hb1.mono (by omega))
  obtain ⟨a1, c1, rfl, hat1, hcap1, hmax1⟩ := ho1'.bytes2
  have HR := read_any a1 (bytesB mA) c1 _ w1 rfl hcap1 hmax1 (bytes_byt mA_ok) hat1
  rw [read_bytes mA_ok] at HR
  generalize bytesB mA = bl at *
  simp only [mA] at HR
  have hs1 := hb1.size
  clear hat1 ho1 ho1' hb1 hm0 hp0
  go_wp2_with fail
  refine HR.mono ?_
  rintro e w2 ⟨v2, rfl, ho2, hb2⟩
  have ho2' : OwnP w2 w1.heap.size v2 [(2, 1, -5)] := ho2
  obtain ⟨a2, c2, rfl, hp2, hcap2⟩ := ho2'.parts
  have hB2 := hB1.below hb2 hB1.lt
  have hq2 := hp1.below hb2
  have hbw2 : Below w.heap.size w w2 := hbw1.trans (hb2.mono (by omega))
  have hs2 := hb2.size
  clear HR ho2 ho2' hb2 hB1 hp1 hbw1
  go_wp2_with fail
  have hBX := hB2.alloc (.cells #[.int .i64 1, .int .i64 70, .int .i64 2, .slice a2 1 c2] 39)
  have hx : Blk (w2.alloc (.cells #[.int .i64 1, .int .i64 70, .int .i64 2, .slice a2 1 c2] 39)) w2.heap.size #[.int .i64 1, .int .i64 70, .int .i64 2, .slice a2 1 c2] 39 := Blk.new _ _ _
  have hqX := hq2.below (below1 w2 (.cells #[.int .i64 1, .int .i64 70, .int .i64 2, .slice a2 1 c2] 39))
  have hpX := hp2.below (below1 w2 (.cells #[.int .i64 1, .int .i64 70, .int .i64 2, .slice a2 1 c2] 39))
  have hbwX : Below w.heap.size w (w2.alloc (.cells #[.int .i64 1, .int .i64 70, .int .i64 2, .slice a2 1 c2] 39)) := hbw2.trans ((below1 w2 _).mono (by omega))
  have hsX : w2.heap.size ≤ (w2.alloc (.cells #[.int .i64 1, .int .i64 70, .int .i64 2, .slice a2 1 c2] 39)).heap.size := by simp
  generalize (w2.alloc (.cells #[.int .i64 1, .int .i64 70, .int .i64 2, .slice a2 1 c2] 39)) = X at *
  clear hB2 hq2 hp2 hbw2
  refine (number_any (-300) (.slice none 0 0) [] X.heap.size X (by omega) (by omega) (by simp) (OwnB.nil _ _) (Nat.le_refl _)).mono ?_
  rintro e w3 ⟨v3, rfl, ho3, hg3⟩
  have hb3 : Below X.heap.size X w3 := hg3.below (OwnB.nil X X.heap.size) (Nat.le_refl _) (Nat.le_refl _)
  have hs3 := hb3.size
  have hB3 := hBX.below hb3 hBX.lt
  have hx3 := hx.below hb3 hx.lt
  have hq3 := hqX.below hb3
  have hp3 := hpX.below hb3
  have hbw3 : Below w.heap.size w w3 := hbwX.trans (hb3.mono (by omega))
  rw [List.nil_append] at ho3
  obtain ⟨a3, c3, rfl, hat3, hcap3, hmax3⟩ := ho3.bytes2
  have HG := get_any a3 (numB (-300)) c3 _ w3 rfl (by omega) (numB_byt (by omega) (by omega)) hat3
  have e300 := get_numB (n := -300) (by omega) (by omega) []
  rw [List.append_nil] at e300
  rw [e300, num300] at HG
  rw [num300]
  clear hat3 ho3 hb3 hg3 hBX hx hqX hpX hbwX e300 hcap3
  go_wp2_with fail
  refine HG.mono ?_
  rintro e w4 ⟨rfl, rfl⟩
  have k0 := hB3.cell 0
  have k1 := hB3.cell 1
  have k2 := hB3.cell 2
  have k3 := hB3.cell 3
  have j0 := hx3.cell 0
  have j1 := hx3.cell 1
  have j2 := hx3.cell 2
  have j3 := hx3.cell 3
  simp at k0 k1 k2 k3 j0 j1 j2 j3
  clear HG
  go_wp2_with fail
  refine (sameMsg_self 1 70 2 _ _ [(2, 1, -5)] _ _ _ _ w4 rfl rfl (by simp) hq3 hp3).mono ?_
  rintro e w5 ⟨rfl, hb5⟩
  clear k0 k1 k2 k3 j0 j1 j2 j3
  have hs5 := hb5.size
  have hB5 := hB3.below hb5 hB3.lt
  have hq5 := hq3.below hb5
  have k0 := hB5.cell 0
  have k1 := hB5.cell 1
  have k2 := hB5.cell 2
  have k3 := hB5.cell 3
  simp at k0 k1 k2 k3
  go_wp2_with fail
  refine (wrongM_any 1 70 2 _ [(2, 1, -5)] _ _ w5 rfl (by simp) hq5 (by simp)).mono ?_
  rw [show wrongM (1, 70, 2, [(2, 1, -5)]) = 0 from mA_ok]
  rintro e w6 ⟨rfl, hb6⟩
  clear k0 k1 k2 k3
  go_wp2_with fail
  refine (sum_any none [] 0 0 w6 rfl (by simp) (by intro c hc; cases hc) (Or.inl rfl)).mono ?_
  rw [show sumB [] = 5 from rfl]
  rintro e w7 ⟨rfl, rfl⟩
  go_wp2
  go_ret
  exact ⟨rfl, hbw3.trans ((hb5.trans (hb6.mono hs5)).mono (by omega))⟩

end Go.Proofs.Ytebiaegnppkdnaa
