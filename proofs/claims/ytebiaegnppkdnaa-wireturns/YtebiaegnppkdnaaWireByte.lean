/- What the law WireByte does, called at whatever message, place and byte. -/
import Derived.Test.YtebiaegnppkdnaaWire8
namespace Go.Proofs.Ytebiaegnppkdnaa
open Go.RowKit
attribute [local go_sem ↓] Go.wp_at_zero Go.wp_at_succ

theorem fine_nums {h : Int} {l : List P3} (hf : Fine h l) : Nums l := fun p hp => by
  have := hf p hp
  omega

set_option maxRecDepth 20000 in
set_option maxHeartbeats 2000000 in
theorem wireByte_any (k d h : Int) (a : Option Addr) (l : List P3) (cap n : Nat) (at_ : Int) (c : Nat) (w : World) (hn : n = l.length) (hm : l.length ≤ 9223372036854775807) (hp : PartsAt w a l) (hcap : l.length ≤ cap) (hc : c < 256) :
    Calls Try.prog 6 #[.agg #[.int .i64 k, .int .i64 d, .int .i64 h, .slice a n cap], .int .i64 at_, .int .u8 c] w fun e w' => e = .returned (.bool true) ∧ Below w.heap.size w w' := by
  subst hn
  go_enter Try.func6, Try.ntmps6
  go_wp2_with fail
  have hB0 : Blk (w.alloc (.cells #[.int .i64 k, .int .i64 d, .int .i64 h, .slice a l.length cap] 39)) w.heap.size #[.int .i64 k, .int .i64 d, .int .i64 h, .slice a l.length cap] 39 := Blk.new _ _ _
  have hbw0 : Below w.heap.size w (w.alloc (.cells #[.int .i64 k, .int .i64 d, .int .i64 h, .slice a l.length cap] 39)) := below1 _ _
  generalize (w.alloc (.cells #[.int .i64 k, .int .i64 d, .int .i64 h, .slice a l.length cap] 39)) = W0 at *
  refine (alive2_any W0).mono ?_
  rintro e w1 ⟨rfl, hb1⟩
  have hB1 := hB0.below hb1 hB0.lt
  have hs1 := hb1.size
  have hs0 := hB0.lt
  have hbw1 : Below w.heap.size w w1 := hbw0.trans (hb1.mono (by omega))
  have hp1 := hp.below hbw1
  have k0 := hB1.cell 0
  have k1 := hB1.cell 1
  have k2 := hB1.cell 2
  have k3 := hB1.cell 3
  simp at k0 k1 k2 k3
  clear hp hb1 hB0 hbw0
  go_wp2_with fail
  refine (wrongM_any k d h a l cap _ w1 rfl hm hp1 hcap).mono ?_
  rintro e w2 ⟨rfl, hb2⟩
  clear k0 k1 k2 k3
  have hB2 := hB1.below hb2 hB1.lt
  have hs2 := hb2.size
  have hbw2 : Below w.heap.size w w2 := hbw1.trans (hb2.mono (by omega))
  have hp2 := hp1.below hb2
  by_cases hw : wrongM (k, d, h, l) = 0
  case neg =>
    generalize wrongM (k, d, h, l) = z at *
    clear hp1 hp2
    go_wp2
    go_ret
    exact ⟨rfl, hbw2⟩
  have HW : Hid (wrongM (k, d, h, l) = 0) := hw
  obtain ⟨hk1, hd1, hh1, hl4, hfine⟩ := wrongM_ok hw
  rw [hw]
  have k0 := hB2.cell 0
  have k1 := hB2.cell 1
  have k2 := hB2.cell 2
  have k3 := hB2.cell 3
  simp at k0 k1 k2 k3
  have HBY := bytes_any k d h a l cap l.length w2 rfl (by simp only at hl4; omega) hp2 (by simp only at hd1; omega) (by simp only at hh1; omega) (fine_nums hfine)
  clear hw hk1 hd1 hh1 hfine hp1 hp2 hb2 hB1 hbw1
  go_wp2_with fail
  refine HBY.mono ?_
  rintro e w3 ⟨v3, rfl, ho3, hb3⟩
  have hbw3 : Below w.heap.size w w3 := hbw2.trans (hb3.mono (by omega))
  have h6 := bytesB_len (k, d, h, l)
  have hbyt := bytes_byt HW.out
  have HRT : Hid (∀ i (hi : i < (bytesB (k, d, h, l)).length), (bytesB (k, d, h, l))[i] ≠ c → readB ((bytesB (k, d, h, l)).set i c) = (m0, 7)) := fun i hi hne => read_turned HW.out hi hc hne
  clear HBY k0 k1 k2 k3 hB2 HW
  generalize bytesB (k, d, h, l) = bs at *
  rcases ho3.2 with ⟨rfl, h0⟩ | ⟨g, cap3, cur, rfl, hg, hh, hcap3, hmax3, hsz3, htake3⟩
  · omega
  have hcell : ∀ i (hi : i < bs.length), w3.cell? ⟨g, i, none⟩ = some (.int .u8 (bs[i] : Nat)) := by
    intro i hi
    rw [cell_of_row w3 g i cur _ _ hh]
    have hj : (cells1 bs)[i]? = some (.int .u8 (bs[i] : Nat)) := by simp [cells1, hi]
    rw [← htake3, List.getElem?_take_of_lt (by omega)] at hj
    simpa using hj
  have hblk : Blk w3 g cur 5 := hh
  clear ho3 hh htake3
  by_cases hat : at_ < 0
  · clear hcell hm hcap
    go_wp2
    go_ret
    exact ⟨by simp; omega, hbw3⟩
  obtain ⟨i, rfl⟩ : ∃ i : Nat, at_ = i := ⟨at_.toNat, by omega⟩
  by_cases hin : i < bs.length
  case neg =>
    have hin' : (bs.length : Int) ≤ (i : Int) := by omega
    clear hcell hm hcap
    go_wp2
    go_ret
    exact ⟨by simp; omega, hbw3⟩
  have q0 := hcell i hin
  have q1 := hblk.free i
  by_cases heq : bs[i] = c
  · rw [heq] at q0
    clear hcell
    go_wp2
    go_ret
    exact ⟨by simp; omega, hbw3⟩
  have HRD := HRT.out i hin heq
  have hX : BytesAt (w3.setCell ⟨g, i, none⟩ (.int .u8 (c : Nat))) (some ⟨g, 0, none⟩) (bs.set i c) := by
    have hbX := hblk.set i (.int .u8 (c : Nat))
    refine Or.inr ⟨g, 0, rfl, hbX.lt, fun j hj => ?_⟩
    have hj' : j < bs.length := by simpa using hj
    rw [hbX.cell, Nat.zero_add]
    by_cases hij : i = j
    · subst hij
      have : i < cur.size := by omega
      simp [this]
    · rw [Array.getElem?_setIfInBounds_ne hij, List.getElem_set_ne hij, ← hblk.cell]
      exact hcell j hj'
  have hbytX : Byt (bs.set i c) := by
    intro x hx
    rcases List.mem_or_eq_of_mem_set hx with h | h
    · exact hbyt x h
    · omega
  have hkX : Below w.heap.size w (w3.setCell ⟨g, i, none⟩ (.int .u8 (c : Nat))) := hbw3.setCell (by show _ ≤ g; omega) _
  have HRE := read_any (some ⟨g, 0, none⟩) (bs.set i c) cap3 bs.length (w3.setCell ⟨g, i, none⟩ (.int .u8 (c : Nat))) (by simp) (by simpa using hcap3) (by unfold maxLen at hmax3; omega) hbytX hX
  rw [HRD] at HRE
  have hne1 : (((bs[i] : Nat) : Int) == (c : Int)) = false := by rw [beq_eq_false_iff_ne]; omega
  have hsX : w3.heap.size ≤ (w3.setCell ⟨g, i, none⟩ (.int .u8 (c : Nat))).heap.size := by simp [World.setCell]
  have hs3 := hb3.size
  generalize bs[i] = x at *
  clear hcell hX hbytX HRD HRT hbyt heq
  go_wp2_with fail
  refine HRE.mono ?_
  rintro e w4 ⟨v4, rfl, ho4, hb4⟩
  obtain ⟨a4, c4, rfl⟩ := ho4.slice
  clear HRE q0 q1 hblk ho4
  simp only [m0]
  go_wp2
  go_ret
  exact ⟨rfl, hkX.trans ((hb4.trans ((below1 w4 _).mono hb4.size)).mono (by omega))⟩

end Go.Proofs.Ytebiaegnppkdnaa
